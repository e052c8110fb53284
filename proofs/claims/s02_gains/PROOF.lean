import PyProof.Rows.All
import Wide.All
import OpenK.AllK
import Wide.FinOn
import PyProof.EqAt
import PyProof.EqKinds
import PyProof.TupleCall
import KE.BitLaws
import Open.SpecLaws
import KE.OsHead
import KE.OsGo
import KE.KIntText
import PySem.Challenge.RW_wallbands_s02_gains
set_option Elab.async false
set_option linter.all false
set_option maxRecDepth 100000
namespace L2
open PySem PySem.Spec PyProof.Rows
abbrev Key := Sum Int Str
def keyIs : Key → Value → Bool
  | .inl k, v => Value.isInt k v
  | .inr x, v => Value.isStrOf x v
def keyH (w : World) : Key → Int
  | .inl k => hashInt k
  | .inr x => hashStr w x
theorem keyIs_shape : ∀ {k : Key} {v : Value}, keyIs k v = true → (∃ i t, k = Sum.inl i ∧ v = Value.int i t) ∨ (∃ x t, k = Sum.inr x ∧ v = Value.str x t)
  | .inl i, v, h => by
    obtain ⟨t, e⟩ := Value.isInt_shape (k := i) (v := v) h
    exact .inl ⟨i, t, rfl, e⟩
  | .inr x, v, h => by
    obtain ⟨t, e⟩ := Value.isStrOf_shape (x := x) (v := v) h
    exact .inr ⟨x, t, rfl, e⟩
theorem key_ll (a b : Int) : decide ((Sum.inl a : Key) = Sum.inl b) = (a == b) := by
  by_cases e : a = b
  · subst e; simp
  · have h : ¬ (Sum.inl a : Key) = Sum.inl b := fun q => e (Sum.inl.inj q)
    rw [decide_eq_false h]
    exact (beq_eq_false_iff_ne.mpr e).symm
theorem key_rr (a b : Str) : decide ((Sum.inr a : Key) = Sum.inr b) = decide (a = b) := by
  by_cases e : a = b
  · subst e; simp
  · have h : ¬ (Sum.inr a : Key) = Sum.inr b := fun q => e (Sum.inr.inj q)
    rw [decide_eq_false h, decide_eq_false e]
theorem key_lr (a : Int) (b : Str) : decide ((Sum.inl a : Key) = Sum.inr b) = false := decide_eq_false (fun q => nomatch q)
theorem key_rl (a : Str) (b : Int) : decide ((Sum.inr a : Key) = Sum.inl b) = false := decide_eq_false (fun q => nomatch q)
def mixKind (prog : Program) (w : World) : PySem.KeyKind prog w Key where
  is := keyIs
  hash := keyH w
  inj := fun v a b ha hb => by
    rcases keyIs_shape ha with ⟨i, t, rfl, rfl⟩ | ⟨x, t, rfl, rfl⟩
    · rcases keyIs_shape hb with ⟨j, u, rfl, e⟩ | ⟨y, u, rfl, e⟩
      · injection e with e1 _; rw [e1]
      · exact nomatch e
    · rcases keyIs_shape hb with ⟨j, u, rfl, e⟩ | ⟨y, u, rfl, e⟩
      · exact nomatch e
      · injection e with e1 _; rw [e1]
  byValue := fun k v h => by
    rcases keyIs_shape h with ⟨i, t, rfl, rfl⟩ | ⟨x, t, rfl, rfl⟩ <;> rfl
  pyHash := fun hv h => by
    rcases keyIs_shape hv with ⟨i, t, rfl, rfl⟩ | ⟨x, t, rfl, rfl⟩
    · exact wpAny_pyHash_int h
    · exact wpAny_pyHash_str h
  eqBool := fun hu hv h => by
    rcases keyIs_shape hu with ⟨i, t, rfl, rfl⟩ | ⟨x, t, rfl, rfl⟩
    · rcases keyIs_shape hv with ⟨j, u, rfl, rfl⟩ | ⟨y, u, rfl, rfl⟩
      · rw [key_ll] at h; exact wpAny_eqBool_int h
      · rw [key_lr] at h; exact SeqAt.EqAt.int_str i t y u _ _ _ _ h
    · rcases keyIs_shape hv with ⟨j, u, rfl, rfl⟩ | ⟨y, u, rfl, rfl⟩
      · rw [key_rl] at h; exact SeqAt.EqAt.str_int x t j u _ _ _ _ h
      · rw [key_rr] at h; exact wpAny_eqBool_str h
  «strs» := fun k x t v h => by
    rcases keyIs_shape h with ⟨i, u, rfl, e⟩ | ⟨y, u, rfl, e⟩
    · exact nomatch e
    · injection e with e1 _
      subst e1
      cases v <;> rfl
end L2
namespace L2
open PySem PySem.Spec PyProof.Rows
/-- a value, without the heap -/
inductive V where
  | non | bl (b : Bool) | int (i : Int) | str (x : Str) | byt (b : Array UInt8) | flt (b : UInt64) | ref (a : Addr) | ty (n : String)
  deriving DecidableEq
def RelV : V → Value → Prop
  | .non, u => u = Value.none
  | .bl b, u => u = Value.bool b
  | .int i, u => ∃ t, u = Value.int i t
  | .str x, u => ∃ t, u = Value.str x t
  | .byt b, u => ∃ t, u = Value.bytes b t
  | .flt b, u => ∃ t, u = Value.float b t
  | .ref a, u => u = Value.ref a
  | .ty n, u => u = Value.type n
abbrev Vals : List V → List Value → Prop := Paired RelV
theorem Vals.length {xs : List V} {us : List Value} (r : Vals xs us) : xs.length = us.length := Paired.length r
theorem Vals.get : ∀ {xs : List V} {us : List Value} {i : Nat} {x : V}, Vals xs us → xs[i]? = some x → ∃ u, us[i]? = some u ∧ RelV x u
  | _, _, _, _, .nil, e => by simp at e
  | _, _, 0, _, .cons r _, e => by simp at e; subst e; exact ⟨_, rfl, r⟩
  | _, _, i + 1, x, .cons _ t, e => by
    obtain ⟨u, h1, h2⟩ := Vals.get (i := i) (x := x) t (by simpa using e)
    exact ⟨u, by simpa using h1, h2⟩
theorem Vals.set {x : V} {u : Value} (r : RelV x u) : ∀ {xs : List V} {us : List Value} (i : Nat), Vals xs us → Vals (xs.set i x) (us.set i u)
  | _, _, _, .nil => .nil
  | _, _, 0, .cons _ t => .cons r t
  | _, _, i + 1, .cons q t => .cons q (Vals.set r i t)
theorem Vals.append : ∀ {xs ys : List V} {us ws : List Value}, Vals xs us → Vals ys ws → Vals (xs ++ ys) (us ++ ws)
  | _, _, _, _, .nil, s => s
  | _, _, _, _, .cons r t, s => .cons r (Vals.append t s)
theorem Vals.take : ∀ {xs : List V} {us : List Value} (n : Nat), Vals xs us → Vals (xs.take n) (us.take n)
  | _, _, 0, _ => .nil
  | _, _, _ + 1, .nil => .nil
  | _, _, n + 1, .cons r t => .cons r (Vals.take n t)
theorem Vals.drop : ∀ {xs : List V} {us : List Value} (n : Nat), Vals xs us → Vals (xs.drop n) (us.drop n)
  | _, _, 0, r => r
  | _, _, _ + 1, .nil => .nil
  | _, _, n + 1, .cons _ t => Vals.drop n t
def RelO : Option V → Option Value → Prop
  | some v, some u => RelV v u
  | none, none => True
  | _, _ => False
def KV {κ : Type} : List (κ × V) → List (κ × Value) → Prop := Paired fun (p : κ × V) (q : κ × Value) => p.1 = q.1 ∧ RelV p.2 q.2
def kV : Key → V
  | .inl i => .int i
  | .inr x => .str x
/-- what stands at a tracked address -/
inductive HO where
  /-- a list -/
  | lst (xs : List V)
  /-- a tuple (never changes) -/
  | tup (xs : List V)
  /-- a dict whose keys are ints and texts; one whose keys are tuples of ints and texts (the empty one is both) -/
  | dK (kvs : List (Key × V)) | dT (kvs : List (List Key × V))
  /-- a set of ints: its members, its size -/
  | set (S : Int → Bool) (n : Nat)
  /-- an instance of the class at C, its dict at dx, its attributes -/
  | ins (C dx : Addr) (fs : List (Str × V))
  /-- the dict of the instance at x -/
  | own (x : Addr)
  /-- the dict of an exception -/
  | xd (fs : List (Str × V))
  /-- a bound method, f of x -/
  | met (f x : Addr)
  /-- a range object lo, lo + 1, .. below hi -/
  | rng (lo hi : Int)
  /-- a thing that is known to the object (the script; a dict while a loop walks it): read, never written while it is so -/
  | frz (o : Obj) (u : HO)
  /-- a code object's table -/
  | tbl (ps : Array Value)
  /-- any other thing, by what is true of its one object (a def of one's own: SetO a S n := HO.ext fun h => ..) -/
  | ext (φ : Heap → Prop)
abbrev Hp := Addr → Option HO
def upd (H : Hp) (a : Addr) (o : HO) : Hp := fun b => if b = a then some o else H b
theorem upd_same {H : Hp} {a : Addr} {o : HO} : upd H a o a = some o := by unfold upd; rw [if_pos rfl]
theorem upd_ne {H : Hp} {a b : Addr} {o : HO} (h : b ≠ a) : upd H a o b = H b := by unfold upd; rw [if_neg h]
theorem ne_of_none {H : Hp} {a b : Addr} {o : HO} (h : H a = some o) (h' : H b = none) : a ≠ b := by
  intro e; subst e; rw [h] at h'; cases h'
section
variable (P : Program) (w : World)
def ObjOk (H : Hp) (h : Heap) (a : Addr) : HO → Prop
  | .lst xs => xs.length ≤ sizeLine ∧ ∃ (its : List Value) (n : Nat), Vals xs its ∧ h.get? a = some { cls := .type "list", data := .seq its.toArray n }
  | .tup xs => xs.length ≤ sizeLine ∧ ∃ its : List Value, Vals xs its ∧ IsTup h a its.toArray
  | .dK kvs => kvs.length ≤ sizeLine ∧ (a == sysModules) = false ∧ ∃ vs, KV kvs vs ∧ h.DictOf (mixKind P w) a vs
  | .dT kvs => kvs.length ≤ sizeLine ∧ (a == sysModules) = false ∧ ∃ xs : List (List Key × Addr × Value),
      Paired (fun (p : List Key × V) (q : List Key × Addr × Value) => p.1 = q.1 ∧ H q.2.1 = some (.tup (p.1.map kV)) ∧ RelV p.2 q.2.2) kvs xs ∧
      ∃ o es ep, h.get? a = some o ∧ o.ExactDict ∧ o.data = .dict es ep ∧ es.toList = xs.map (entryOfKey (tupleKind (mixKind P w))) ∧ (xs.map (·.1)).Nodup
  | .set S n => h.SetOf (intKind P w) a S n
  | .ins C dx fs => H dx = some (.own a) ∧ fs.length ≤ 1000 ∧ dx ≠ a ∧ h.get? a = some (PySem.W.instObj C dx) ∧
      ∃ mA, h.Ns1 dx mA ∧ (∀ f, RelO (fs.lookup f) (mA f)) ∧ PySem.Within mA (fs.map (·.1))
  | .own _ => ∃ o, h.get? a = some o
  | .xd fs => ∃ mA, h.Ns1 a mA ∧ ∀ f, RelO (fs.lookup f) (mA f)
  | .rng lo hi => ∃ t u v, h.get? a = some { cls := .type "range", data := .fields #[.int lo t, .int hi u, .int 1 v] }
  | .frz o u => h.get? a = some o ∧ ObjOk H h a u
  | .tbl ps => h.get? a = some { cls := .none, data := .fields ps }
  | .met f x => h.get? a = some (PySem.W.methodObj (.ref f) (.ref x))
  | .ext φ => φ h ∧ (∃ o, h.get? a = some o) ∧ ∀ h1 h2 : Heap, φ h1 → (∀ o, h1.get? a = some o → h2.get? a = some o) → φ h2
def HOk (H : Hp) (h : Heap) : Prop := ∀ a o, H a = some o → ObjOk P w H h a o
end
section
variable {P : Program} {w : World} {H H' : Hp} {h h' : Heap} {a : Addr} {o : HO}
theorem ObjOk.lt (x : ObjOk P w H h a o) : a < h.objs.size := by
  cases o with
  | lst xs => obtain ⟨_, _, _, _, e⟩ := x; exact Heap.lt_size e
  | tup xs => obtain ⟨_, _, _, p⟩ := x; exact p.lt
  | dK kvs => obtain ⟨_, _, _, _, o, _, _, e, _⟩ := x; exact Heap.lt_size e
  | dT kvs => obtain ⟨_, _, _, _, o, _, _, e, _⟩ := x; exact Heap.lt_size e
  | set S n => obtain ⟨o, _, _, _, e, _⟩ := x; exact Heap.lt_size e
  | ins C dx fs => obtain ⟨_, _, _, e, _⟩ := x; exact Heap.lt_size e
  | own y => obtain ⟨_, e⟩ := x; exact Heap.lt_size e
  | xd fs => obtain ⟨_, ⟨_, _, _, e, _⟩, _⟩ := x; exact Heap.lt_size e
  | rng lo hi => obtain ⟨_, _, _, e⟩ := x; exact Heap.lt_size e
  | frz ob u => obtain ⟨e, _⟩ := x; exact Heap.lt_size e
  | tbl ps => exact Heap.lt_size (show h.get? a = some _ from x)
  | met f y => exact Heap.lt_size (show h.get? a = some _ from x)
  | ext φ => obtain ⟨_, ⟨_, e⟩, _⟩ := x; exact Heap.lt_size e
theorem Paired.mapP {α β : Type} {F G : α → β → Prop} : ∀ {l₁ : List α} {l₂ : List β}, Paired F l₁ l₂ → (∀ a b, F a b → G a b) → Paired G l₁ l₂
  | _, _, .nil, _ => .nil
  | _, _, .cons r t, f => .cons (f _ _ r) (Paired.mapP t f)
theorem ObjOk.stay (x : ObjOk P w H h a o) (k : ∀ b u, (b = a ∨ H b = some (.own a)) → h.get? b = some u → h'.get? b = some u)
    (ho : ∀ b, H b = some (.own a) → H' b = some (.own a)) (ht : ∀ b xs, H b = some (.tup xs) → H' b = some (.tup xs)) : ObjOk P w H' h' a o := by
  induction o with
  | lst xs => obtain ⟨z, its, n, r, e⟩ := x; exact ⟨z, its, n, r, k _ _ (.inl rfl) e⟩
  | tup xs => obtain ⟨z, its, r, ob, e, c⟩ := x; exact ⟨z, its, r, ob, k _ _ (.inl rfl) e, c⟩
  | dK kvs => obtain ⟨z, y, vs, r, ob, es, ep, e, c⟩ := x; exact ⟨z, y, vs, r, ob, es, ep, k _ _ (.inl rfl) e, c⟩
  | dT kvs =>
    obtain ⟨z, y, xs, r, ob, es, ep, e, c⟩ := x
    exact ⟨z, y, xs, Paired.mapP r fun p q z => ⟨z.1, ht _ _ z.2.1, z.2.2⟩, ob, es, ep, k _ _ (.inl rfl) e, c⟩
  | set S n => obtain ⟨ob, es, ep, t, e, c⟩ := x; exact ⟨ob, es, ep, t, k _ _ (.inl rfl) e, c⟩
  | ins C dx fs =>
    obtain ⟨d, z, ne, e, mA, ⟨od, es, ep, e2, c⟩, r⟩ := x
    exact ⟨ho _ d, z, ne, k _ _ (.inl rfl) e, mA, ⟨od, es, ep, k _ _ (.inr d) e2, c⟩, r⟩
  | own y => obtain ⟨ob, e⟩ := x; exact ⟨ob, k _ _ (.inl rfl) e⟩
  | xd fs => obtain ⟨mA, ⟨od, es, ep, e, c⟩, r⟩ := x; exact ⟨mA, ⟨od, es, ep, k _ _ (.inl rfl) e, c⟩, r⟩
  | rng lo hi => obtain ⟨t, u, v, e⟩ := x; exact ⟨t, u, v, k _ _ (.inl rfl) e⟩
  | frz ob u ih => obtain ⟨e, q⟩ := x; exact ⟨k _ _ (.inl rfl) e, ih q⟩
  | tbl ps =>
    have e : h.get? a = some { cls := .none, data := .fields ps } := x
    show h'.get? a = some { cls := .none, data := .fields ps }
    exact k a _ (.inl rfl) e
  | met f y =>
    have e : h.get? a = some (PySem.W.methodObj (.ref f) (.ref y)) := x
    show h'.get? a = some (PySem.W.methodObj (.ref f) (.ref y))
    exact k a _ (.inl rfl) e
  | ext φ => obtain ⟨p, ⟨o, e⟩, st⟩ := x; exact ⟨st _ _ p fun o q => k _ _ (.inl rfl) q, ⟨o, k _ _ (.inl rfl) e⟩, st⟩
theorem HOk.lt (x : HOk P w H h) (e : H a = some o) : a < h.objs.size := (x a o e).lt
theorem HOk.fresh (x : HOk P w H h) (e : h.objs.size ≤ a) : H a = none := by
  cases q : H a with
  | none => rfl
  | some u => exact absurd (Nat.lt_of_lt_of_le (x.lt q) e) (Nat.lt_irrefl _)
theorem HOk.kept (x : HOk P w H h) (k : ∀ b u, h.get? b = some u → h'.get? b = some u) : HOk P w H h' := fun a o e =>
  (x a o e).stay (fun b u _ q => k b u q) (fun _ q => q) fun _ _ q => q
theorem HOk.laid (x : HOk P w H h) (k : ∀ b u, h.get? b = some u → h'.get? b = some u) (hp : h.objs.size ≤ a) (new : ObjOk P w (upd H a o) h' a o) : HOk P w (upd H a o) h' := fun b u e => by
  have hn := x.fresh hp
  by_cases hb : b = a
  · subst hb; rw [upd_same] at e; cases e; exact new
  · rw [upd_ne hb] at e
    exact (x b u e).stay (fun c v _ q => k c v q) (fun c q => by rw [upd_ne (ne_of_none q hn)]; exact q) fun c xs q => by rw [upd_ne (ne_of_none q hn)]; exact q
end
def Rd (H : Hp) (a : Addr) (u : HO) : Prop := H a = some u ∨ ∃ o, H a = some (.frz o u)
theorem Rd.of {H : Hp} {a : Addr} {u : HO} (h : H a = some u) : Rd H a u := .inl h
theorem Rd.ok {P : Program} {w : World} {H : Hp} {h : Heap} {a : Addr} {u : HO} (r : Rd H a u) (x : HOk P w H h) : ObjOk P w H h a u := by
  rcases r with r | ⟨o, r⟩
  · exact x a u r
  · obtain ⟨_, q⟩ := x a _ r
    exact q
def Mut : Option HO → Prop
  | some (.lst _) => True
  | some (.dK _) => True
  | some (.dT _) => True
  | some (.set _ _) => True
  | some (.ins _ _ _) => True
  | some (.ext _) => True
  | _ => False
section
variable {P : Program} {w : World} {H : Hp} {h h' : Heap} {x e : Addr} {o' : HO}
theorem HOk.write (ok : HOk P w H h) (mu : Mut (H x)) (he : e = x ∨ H e = some (.own x)) (k : ∀ b u, b ≠ e → h.get? b = some u → h'.get? b = some u) (heo : ∃ u, h'.get? e = some u)
    (new : ObjOk P w (upd H x o') h' x o') : HOk P w (upd H x o') h' := fun b u q => by
  have nown : ∀ c y, H c = some (.own y) → c ≠ x := fun c y r z => by subst z; rw [r] at mu; exact mu
  have ntup : ∀ c xs, H c = some (.tup xs) → c ≠ x := fun c xs r z => by subst z; rw [r] at mu; exact mu
  by_cases hb : b = x
  · subst hb; rw [upd_same] at q; cases q; exact new
  · rw [upd_ne hb] at q
    by_cases hbe : b = e
    · have q' : H b = some (.own x) := by
        rcases he with z | z
        · exact absurd (hbe.trans z) hb
        · rw [hbe]; exact z
      rw [q] at q'; cases q'
      obtain ⟨v, hv⟩ := heo
      exact ⟨v, by rw [hbe]; exact hv⟩
    · refine (ok b u q).stay (fun c v hc r => k c v ?_ r) (fun c r => by rw [upd_ne (nown c b r)]; exact r) fun c xs r => by rw [upd_ne (ntup c xs r)]; exact r
      rcases hc with rfl | hc
      · exact hbe
      · rintro rfl
        rcases he with z | z
        · exact nown c b hc z
        · rw [hc] at z; cases z; exact hb rfl
end
structure Un (fs ex : List Addr) (H H' : Hp) (h h' : Heap) : Prop where
  keep : ∀ b o, h.get? b = some o → H b = none → b ∉ fs → b ∉ ex → h'.get? b = some o
  slot : ∀ b o, h.get? b = some o → H b = none → b ∈ fs → b ∉ ex → ∃ sl, h'.get? b = some { o with slots := sl }
  free : ∀ b o, h.get? b = some o → H b = none → b ∉ ex → H' b = none
  there : ∀ b o, h.get? b = some o → b ∉ ex → ∃ o', h'.get? b = some o'
  tups : ∀ b xs, H b = some (.tup xs) → H' b = some (.tup xs)
  frzs : ∀ b o u, H b = some (.frz o u) → H' b = some (.frz o u)
  tbls : ∀ b ps, H b = some (.tbl ps) → ∃ more, H' b = some (.tbl (ps ++ more))
section
variable {fs fs' ex ex' : List Addr} {H H1 H2 : Hp} {h h1 h2 h' : Heap} {a x e : Addr} {o : HO}
theorem Un.any (u : Un fs ex H H1 h h1) {b : Addr} {ob : Obj} (q : h.get? b = some ob) (n : H b = none) (hx : b ∉ ex) : ∃ sl, h1.get? b = some { ob with slots := sl } := by
  by_cases hb : b ∈ fs
  · exact u.slot b ob q n hb hx
  · exact ⟨ob.slots, u.keep b ob q n hb hx⟩
theorem Un.trans (a : Un fs ex H H1 h h1) (b : Un fs ex H1 H2 h1 h2) : Un fs ex H H2 h h2 where
  keep := fun c ob q n hc hx => b.keep c ob (a.keep c ob q n hc hx) (a.free c ob q n hx) hc hx
  slot := fun c ob q n hc hx => by
    obtain ⟨sl, e1⟩ := a.slot c ob q n hc hx
    obtain ⟨sl', e2⟩ := b.slot c _ e1 (a.free c ob q n hx) hc hx
    exact ⟨sl', e2⟩
  free := fun c ob q n hx => by
    obtain ⟨o', e1⟩ := a.there c ob q hx
    exact b.free c o' e1 (a.free c ob q n hx) hx
  there := fun c ob q hx => by
    obtain ⟨o', e1⟩ := a.there c ob q hx
    exact b.there c o' e1 hx
  tups := fun c xs q => b.tups c xs (a.tups c xs q)
  frzs := fun c ob xs q => b.frzs c ob xs (a.frzs c ob xs q)
  tbls := fun c ps q => by
    obtain ⟨m1, e1⟩ := a.tbls c ps q
    obtain ⟨m2, e2⟩ := b.tbls c _ e1
    exact ⟨m1 ++ m2, by rw [e2, Array.append_assoc]⟩
theorem Un.kept (k : ∀ b u, h.get? b = some u → h'.get? b = some u) : Un fs ex H H h h' :=
  ⟨fun b ob q _ _ _ => k b ob q, fun b ob q _ _ _ => ⟨ob.slots, k b ob q⟩, fun _ _ _ n _ => n, fun b ob q _ => ⟨ob, k b ob q⟩, fun _ _ q => q, fun _ _ _ q => q, fun _ ps q => ⟨#[], by rw [q]; simp⟩⟩
theorem Un.refl : Un fs ex H H h h := Un.kept fun _ _ q => q
theorem Un.laid (k : ∀ b u, h.get? b = some u → h'.get? b = some u) (hp : h.objs.size ≤ a) (hn : H a = none) : Un fs ex H (upd H a o) h h' where
  keep := fun b u q _ _ _ => k b u q
  slot := fun b u q _ _ _ => ⟨u.slots, k b u q⟩
  free := fun b u q n _ => by rw [upd_ne (Nat.ne_of_lt (Nat.lt_of_lt_of_le (Heap.lt_size q) hp))]; exact n
  there := fun b u q _ => ⟨u, k b u q⟩
  tups := fun b xs q => by rw [upd_ne (ne_of_none q hn)]; exact q
  frzs := fun b u xs q => by rw [upd_ne (ne_of_none q hn)]; exact q
  tbls := fun b ps q => ⟨#[], by rw [upd_ne (ne_of_none q hn), q]; simp⟩
theorem Un.write (mu : Mut (H x)) (he : e = x ∨ H e = some (.own x)) (k : ∀ b u, b ≠ e → h.get? b = some u → h'.get? b = some u) (heo : ∃ u, h'.get? e = some u) : Un fs ex H (upd H x o) h h' := by
  have hx : ∀ b, H b = none → b ≠ x := fun b n z => by subst z; rw [n] at mu; exact mu
  have hb : ∀ b, H b = none → b ≠ e := fun b n z => by
    subst z
    rcases he with r | r
    · exact hx b n r
    · rw [n] at r; cases r
  have hm : ∀ b u, H b = some u → ¬ Mut (some u) → b ≠ x := fun b u q nm z => by subst z; rw [q] at mu; exact nm mu
  refine ⟨fun b u q n _ _ => k b u (hb b n) q, fun b u q n _ _ => ⟨u.slots, k b u (hb b n) q⟩, fun b u q n _ => by rw [upd_ne (hx b n)]; exact n, fun b u q _ => ?_,
    fun b xs q => by rw [upd_ne (hm b _ q fun z => z)]; exact q, fun b u xs q => by rw [upd_ne (hm b _ q fun z => z)]; exact q, fun b ps q => ⟨#[], by rw [upd_ne (hm b _ q fun z => z), q]; simp⟩⟩
  by_cases hbe : b = e
  · subst hbe; exact heo
  · exact ⟨u, k b u hbe q⟩
theorem Un.mono (u : Un fs ex H H1 h h1) (hs : ∀ b ∈ fs, b ∈ fs') (hx : ∀ b ∈ ex, b ∈ ex') : Un fs' ex' H H1 h h1 :=
  ⟨fun b ob q n hb he => u.keep b ob q n (fun z => hb (hs b z)) fun z => he (hx b z), fun _ _ q n _ he => u.any q n fun z => he (hx _ z), fun b ob q n he => u.free b ob q n fun z => he (hx b z), fun b ob q he => u.there b ob q fun z => he (hx b z), u.tups, u.frzs, u.tbls⟩
end
def trk (h : Heap) (H : Hp) : List Addr := (List.range h.objs.size).filter fun a => (H a).isSome
def hidT (h : Heap) (H : Hp) : Heap := PySem.W.hideAll h (trk h H)
theorem hidT_size (h : Heap) (H : Hp) : (hidT h H).objs.size = h.objs.size := PySem.W.hideAll_size _ _
theorem hidT_get {h : Heap} {H : Hp} {b : Addr} {o : Obj} (e : h.get? b = some o) (n : H b = none) : (hidT h H).get? b = some o :=
  PySem.W.hideAll_get _ e fun hm => by
    have q : (H b).isSome = true := (List.mem_filter.mp hm).2
    rw [n] at q; simp at q
theorem of_hidT {h : Heap} {H : Hp} {b : Addr} {o : Obj} (e : (hidT h H).get? b = some o) : h.get? b = some o ∧ H b = none := by
  have e' : h.get? b = some o := PySem.W.of_hideAll (trk h H) e
  refine ⟨e', ?_⟩
  cases q : H b with
  | none => rfl
  | some x =>
    have hm : b ∈ trk h H := List.mem_filter.mpr ⟨List.mem_range.mpr (Heap.lt_size e'), by simp [q]⟩
    have z : (hidT h H).get? b = none := PySem.W.hideAll_none (trk h H) hm
    rw [z] at e; cases e
def allNews (g h : Heap) (L : Addr) : List (Addr × Obj) := (List.range h.objs.size).filterMap fun a => if a = L ∨ (g.get? a).isSome = true then none else (h.get? a).map fun o => (a, o)
def rest (g h : Heap) (L d : Addr) : List (Addr × Obj) := (allNews g h L).filter fun p => decide (p.1 ≠ d)
end L2
namespace L2
open PySem PySem.Spec PyProof.Rows
/-- the module's facts, over the base: the heap at the law's entry without what is tracked there -/
structure Mod (K : PySem.W.Frag) (mg : Str → Option Value) (base : Heap) : Prop where
  kin : K.In base
  glob : base.Ns mainGlobals mg
  blt : ∃ mb, base.Ns builtinsNs mb ∧ ∀ x : Str, x ≠ "__name__" → mb x = bootBuiltins x
  nolimit : base.NoLimit
/-- the context: a def's body (or a comprehension's block) running. base: fixed through the whole law; s₀, H₀: the entry; outer: the frames whose slots others may change (a def's callers); stack: all frames that run;
   ex: iterators that were made ahead of the entry and are walked here (a comprehension's); fn: the names whose cells were made at the entry (a def: all; a comprehension's block: its own); calm: not within an except suite; pn: pins that every state bears; xe: what is wanted of an exception that leaves the code -/
structure Cx where
  prog : Program
  w : World
  K : PySem.W.Frag
  mg : Str → Option Value
  base : Heap
  A : Around
  N : List Str
  s_0 : Shared
  H_0 : Hp
  env : Env
  outer : List Env
  stack : List Env
  ex : List Addr
  fn : Str → Bool
  calm : Bool
  pn : List (Addr × Obj)
  xe : Value → Shared → Prop
def frs (l : List Env) : List Addr := l.filterMap (·.frame)
abbrev Cx.fs (X : Cx) : List Addr := frs X.outer
def Vis (sc : Scope) (x : Str) : Prop := sc.names.lookup x = some .local ∨ sc.names.lookup x = some .cell ∨ sc.names.lookup x = some .free
def Loc (sc : Scope) (x : Str) : Prop := sc.names.lookup x = some .local ∨ sc.names.lookup x = some .cell
def Look (env : Env) (h : Heap) (m : Str → Option Value) (x : Str) (u : Value) : Prop :=
  (env.kindOf x = some .local ∧ m x = some u) ∨ ((env.kindOf x = some .cell ∨ env.kindOf x = some .free) ∧ ∃ c, env.cells.lookup x = some c ∧ h.IsCell c (some u))
structure Cx.Ok (X : Cx) : Prop where
  mod : Mod X.K X.mg X.base
  kind : X.env.scope.kind = .function
  glob : X.env.globals = mainGlobals
  blt : X.env.builtins = builtinsNs
  above : X.s_0.heap.objs.size ≤ X.env.locals
  inj : ∀ x y c, X.env.cells.lookup x = some c → X.env.cells.lookup y = some c → x = y
  has : ∀ x, (X.env.kindOf x = some .cell ∨ X.env.kindOf x = some .free) → ∃ c, X.env.cells.lookup x = some c
  cab : ∀ x c, X.fn x = true → X.env.cells.lookup x = some c → X.s_0.heap.objs.size ≤ c
  hd : X.calm = true → X.A.handled = none
  frames : X.A.frames = some X.stack
  stk : X.stack = X.outer ∨ (X.stack = X.env :: X.outer ∧ X.env.frame = some X.env.locals)
  exf : ∀ b ∈ X.ex, b ≠ X.env.locals ∧ ∀ x c, X.env.cells.lookup x = some c → c ≠ b
  bs : ∀ b o, X.base.get? b = some o → X.s_0.heap.get? b = some o ∧ X.H_0 b = none
  bsz : X.base.objs.size ≤ X.s_0.heap.objs.size
  noex : ∀ b o, X.base.get? b = some o → b ∉ X.ex
  exfs : ∀ b ∈ X.ex, b ∉ X.fs
  funs : X.s_0.heap.FunFrames X.base X.outer
  frf : ∀ b ∈ X.fs, X.H_0 b = none
structure Inv (X : Cx) (pins : List (Addr × Obj)) (σ : List (Option V)) (H : Hp) (s : Shared) : Prop where
  ok : X.Ok
  os : s.os = X.s_0.os
  bare : AllBare s.gens
  base : Un X.fs X.ex X.H_0 H X.s_0.heap s.heap
  loc : ∃ m, s.heap.Ns X.env.locals m ∧ ∀ (i : Nat) (x : Str) (v : V), X.N[i]? = some x → σ[i]? = some (some v) → Vis X.env.scope x → ∃ u, RelV v u ∧ Look X.env s.heap m x u
  cell : ∀ x c, X.env.cells.lookup x = some c → ∃ v, s.heap.IsCell c v
  free : H X.env.locals = none
  freeC : ∀ x c, X.env.cells.lookup x = some c → H c = none
  pin : ∀ p ∈ X.pn ++ pins, s.heap.get? p.1 = some p.2 ∧ H p.1 = none ∧ p.1 ≠ X.env.locals ∧ p.1 ∉ X.fs ∧ ∀ v, p.2.data ≠ .cell v
  hok : HOk X.prog X.w H s.heap
  len : σ.length = X.N.length
section
variable {X : Cx} {pins : List (Addr × Obj)} {σ : List (Option V)} {H H' : Hp} {s : Shared} {h' : Heap}
theorem Cx.Ok.nofr (ok : X.Ok) {b : Addr} {o : Obj} (e : X.base.get? b = some o) : b ∉ X.fs := fun hb => by
  have := (ok.funs.mem hb).1
  rw [e] at this; cases this
theorem Inv.bs (I : Inv X pins σ H s) : ∀ b o, X.base.get? b = some o → s.heap.get? b = some o ∧ H b = none := fun b o e =>
  ⟨I.base.keep b o (I.ok.bs b o e).1 (I.ok.bs b o e).2 (I.ok.nofr e) (I.ok.noex b o e), I.base.free b o (I.ok.bs b o e).1 (I.ok.bs b o e).2 (I.ok.noex b o e)⟩
theorem Inv.bk (I : Inv X pins σ H s) : ∀ b o, X.base.get? b = some o → s.heap.get? b = some o := fun b o e => (I.bs b o e).1
theorem Inv.mod (I : Inv X pins σ H s) : Mod X.K X.mg X.base := I.ok.mod
theorem Inv.kIn (I : Inv X pins σ H s) : X.K.In s.heap := I.ok.mod.kin.keeps I.bk
theorem Inv.nolimit (I : Inv X pins σ H s) : s.heap.NoLimit := I.ok.mod.nolimit.keeps I.bk
theorem Inv.lt (I : Inv X pins σ H s) : X.env.locals < s.heap.objs.size := let ⟨_, hn, _⟩ := I.loc; hn.lt
theorem Inv.sz (I : Inv X pins σ H s) : X.s_0.heap.objs.size ≤ s.heap.objs.size := Nat.le_trans I.ok.above (Nat.le_of_lt I.lt)
theorem Inv.nofs (I : Inv X pins σ H s) {a : Addr} (h : s.heap.objs.size ≤ a) : a ∉ X.fs := fun hb => by
  obtain ⟨_, o, ho, _⟩ := I.ok.funs.mem hb
  exact absurd (Nat.lt_of_lt_of_le (Heap.lt_size ho) (Nat.le_trans I.sz h)) (Nat.lt_irrefl _)
theorem Inv.cne (I : Inv X pins σ H s) : ∀ x c, X.env.cells.lookup x = some c → c ≠ X.env.locals := fun x c e z => by
  obtain ⟨v, o, ho, hd⟩ := I.cell x c e
  obtain ⟨m, ⟨o', es, ep, ho', hd', _⟩, _⟩ := I.loc
  rw [z, ho'] at ho; cases ho; rw [hd'] at hd; cases hd
theorem Inv.funs (I : Inv X pins σ H s) : s.heap.FunFrames X.base X.outer := by
  have all : ∀ (l : List Env), (∀ b ∈ frs l, b ∈ X.fs) → X.s_0.heap.FunFrames X.base l → s.heap.FunFrames X.base l := by
    intro l
    induction l with
    | nil => intro _ _; trivial
    | cons env r ih =>
      intro hs hl
      obtain ⟨hk, ⟨L, o, hf, hn, ho, hd⟩, hr⟩ := hl
      have hL : L ∈ X.fs := hs L (by unfold frs; rw [List.filterMap_cons, hf]; exact List.mem_cons_self)
      obtain ⟨sl, e⟩ := I.base.slot L o ho (I.ok.frf L hL) hL fun z => I.ok.exfs L z hL
      exact ⟨hk, ⟨L, _, hf, hn, e, hd⟩, ih (fun b hb => hs b (by unfold frs; rw [List.filterMap_cons, hf]; exact List.mem_cons_of_mem _ hb)) hr⟩
  exact all X.outer (fun _ hb => hb) I.ok.funs
theorem Inv.stack (I : Inv X pins σ H s) : s.heap.FunFrames X.base X.stack := by
  rcases I.ok.stk with e | ⟨e, hf⟩
  · rw [e]; exact I.funs
  · rw [e]
    obtain ⟨m, hn, _⟩ := I.loc
    refine .cons (by rw [I.ok.kind]; decide) hf hn ?_ I.funs
    exact Heap.get?_none_of_le (Nat.le_trans I.ok.bsz I.ok.above)
theorem Inv.stkSub (I : Inv X pins σ H s) : ∀ b ∈ frs X.stack, b ∈ X.env.locals :: X.fs := fun b hb => by
  rcases I.ok.stk with e | ⟨e, hf⟩
  · rw [e] at hb; exact List.mem_cons_of_mem _ hb
  · rw [e] at hb
    unfold frs at hb
    rw [List.filterMap_cons, hf] at hb
    exact hb
theorem Inv.stkFree (I : Inv X pins σ H s) : ∀ b ∈ frs X.stack, H b = none := fun b hb => by
  rcases List.mem_cons.mp (I.stkSub b hb) with e | hb
  · rw [e]; exact I.free
  · obtain ⟨_, o, ho, _⟩ := I.ok.funs.mem hb
    exact I.base.free b o ho (I.ok.frf b hb) fun z => I.ok.exfs b z hb
theorem Inv.step {g' : Array GenState} {t' : Nat} {d' : Drawn} {ch : List Addr} (I : Inv X pins σ H s)
    (hch : ∀ b ∈ ch, (b ∈ X.ex ∨ X.s_0.heap.objs.size ≤ b) ∧ b ≠ X.env.locals ∧ (∀ x c, X.env.cells.lookup x = some c → c ≠ b) ∧ ∀ p ∈ X.pn ++ pins, p.1 ≠ b)
    (keep : ∀ b o, b ≠ X.env.locals → b ∉ X.fs → b ∉ ch → s.heap.get? b = some o → H b = none → h'.get? b = some o)
    (slot : ∀ b o, b ≠ X.env.locals → b ∈ X.fs → b ∉ ch → s.heap.get? b = some o → H b = none → ∃ sl, h'.get? b = some { o with slots := sl }) (free : ∀ b o, b ∉ ch → s.heap.get? b = some o → H b = none → H' b = none)
    (there : ∀ b o, b ∉ ch → s.heap.get? b = some o → ∃ o', h'.get? b = some o')
    (tups : ∀ b xs, H b = some (.tup xs) → H' b = some (.tup xs)) (frzs : ∀ b o u, H b = some (.frz o u) → H' b = some (.frz o u)) (tbls : ∀ b ps, H b = some (.tbl ps) → ∃ more, H' b = some (.tbl (ps ++ more)))
    (ns : ∀ m, s.heap.Ns X.env.locals m → h'.Ns X.env.locals m) (hok : HOk X.prog X.w H' h') (hg : AllBare g') :
    Inv X pins σ H' { s with heap := h', gens := g', drawn := d', toks := t' } := by
  have neL : ∀ b o, X.s_0.heap.get? b = some o → b ≠ X.env.locals := fun b o e => Nat.ne_of_lt (Nat.lt_of_lt_of_le (Heap.lt_size e) I.ok.above)
  have neC : ∀ b o, X.s_0.heap.get? b = some o → b ∉ X.ex → b ∉ ch := fun b o e hx hb => by
    rcases (hch b hb).1 with z | z
    · exact hx z
    · exact absurd (Nat.lt_of_lt_of_le (Heap.lt_size e) z) (Nat.lt_irrefl _)
  have cellK : ∀ x c, X.env.cells.lookup x = some c → ∀ v, s.heap.IsCell c v → h'.IsCell c v := fun x c e v ⟨o, ho, hd⟩ => by
    have nch : c ∉ ch := fun z => (hch c z).2.2.1 x c e rfl
    by_cases hc : c ∈ X.fs
    · obtain ⟨sl, q⟩ := slot c o (I.cne x c e) hc nch ho (I.freeC x c e)
      exact ⟨_, q, hd⟩
    · exact ⟨o, keep c o (I.cne x c e) hc nch ho (I.freeC x c e), hd⟩
  refine ⟨I.ok, I.os, hg, ⟨fun b o e n hb hx => ?_, fun b o e n hb hx => ?_, fun b o e n hx => ?_, fun b o e hx => ?_, fun b xs e => tups b xs (I.base.tups b xs e), fun b o xs e => frzs b o xs (I.base.frzs b o xs e), fun b ps e => ?_⟩, ?_, fun x c e => ?_, ?_, fun x c e => ?_, fun p hp => ?_, hok, I.len⟩
  · exact keep b o (neL b o e) hb (neC b o e hx) (I.base.keep b o e n hb hx) (I.base.free b o e n hx)
  · obtain ⟨sl, e1⟩ := I.base.slot b o e n hb hx
    obtain ⟨sl', e2⟩ := slot b _ (neL b o e) hb (neC b o e hx) e1 (I.base.free b o e n hx)
    exact ⟨sl', e2⟩
  · obtain ⟨o', e1⟩ := I.base.there b o e hx
    exact free b o' (neC b o e hx) e1 (I.base.free b o e n hx)
  · obtain ⟨o', e1⟩ := I.base.there b o e hx
    exact there b o' (neC b o e hx) e1
  · obtain ⟨m1, e1⟩ := I.base.tbls b ps e
    obtain ⟨m2, e2⟩ := tbls b _ e1
    exact ⟨m1 ++ m2, by rw [e2, Array.append_assoc]⟩
  · obtain ⟨m, hn, hl⟩ := I.loc
    refine ⟨m, ns m hn, fun i x v e1 e2 e3 => ?_⟩
    obtain ⟨u, r, l⟩ := hl i x v e1 e2 e3
    refine ⟨u, r, ?_⟩
    rcases l with l | ⟨k, c, e, z⟩
    · exact .inl l
    · exact .inr ⟨k, c, e, cellK x c e _ z⟩
  · obtain ⟨v, z⟩ := I.cell x c e
    exact ⟨v, cellK x c e v z⟩
  · obtain ⟨m, ⟨o, _, _, ho, _⟩, _⟩ := I.loc
    exact free _ o (fun z => (hch _ z).2.1 rfl) ho I.free
  · obtain ⟨v, o, ho, hd⟩ := I.cell x c e
    exact free c o (fun z => (hch c z).2.2.1 x c e rfl) ho (I.freeC x c e)
  · obtain ⟨e, n, ne, nf, d⟩ := I.pin p hp
    have nch : p.1 ∉ ch := fun z => (hch p.1 z).2.2.2 p hp rfl
    exact ⟨keep p.1 p.2 ne nf nch e n, free p.1 p.2 nch e n, ne, nf, d⟩
theorem Inv.un {t' : Nat} (I : Inv X pins σ H s) (u : Un X.fs [] H H' s.heap h') (hok : HOk X.prog X.w H' h') : Inv X pins σ H' { s with heap := h', toks := t' } := by
  obtain ⟨m, ⟨o, es, ep, ho, r⟩, _⟩ := id I.loc
  obtain ⟨sl, hL⟩ := u.any ho I.free (by simp)
  exact I.step (g' := s.gens) (d' := s.drawn) (ch := []) (fun _ z => nomatch z) (fun b o _ hb _ e n => u.keep b o e n hb (by simp)) (fun b o _ hb _ e n => u.slot b o e n hb (by simp)) (fun b o _ e n => u.free b o e n (by simp)) (fun b o _ e => u.there b o e (by simp)) u.tups u.frzs u.tbls (fun m' hm => by
    obtain ⟨o', es', ep', ho', r'⟩ := hm
    rw [ho] at ho'; cases ho'
    exact ⟨_, es', ep', hL, r'⟩) hok I.bare
theorem Inv.call {g' : Array GenState} {t' : Nat} {d' : Drawn} {ch : List Addr} (I : Inv X pins σ H s) (u : Un (frs X.stack) ch H H' s.heap h') (hok : HOk X.prog X.w H' h') (hg : AllBare g')
    (hch : ∀ b ∈ ch, (b ∈ X.ex ∨ X.s_0.heap.objs.size ≤ b) ∧ b ≠ X.env.locals ∧ (∀ x c, X.env.cells.lookup x = some c → c ≠ b) ∧ ∀ p ∈ X.pn ++ pins, p.1 ≠ b) :
    Inv X pins σ H' { s with heap := h', gens := g', drawn := d', toks := t' } := by
  obtain ⟨m, ⟨o, es, ep, ho, r⟩, _⟩ := id I.loc
  obtain ⟨sl, hL⟩ := u.any ho I.free fun z => (hch _ z).2.1 rfl
  exact I.step (ch := ch) hch (fun b o hL hb hc e n => u.keep b o e n (fun z => (List.mem_cons.mp (I.stkSub b z)).elim hL hb) hc) (fun b o _ _ hc e n => u.any e n hc) (fun b o hc e n => u.free b o e n hc) (fun b o hc e => u.there b o e hc) u.tups u.frzs u.tbls (fun m' hm => by
    obtain ⟨o', es', ep', ho', r'⟩ := hm
    rw [ho] at ho'; cases ho'
    exact ⟨_, es', ep', hL, r'⟩) hok hg
theorem Inv.turned {t' : Nat} {it : Addr} (I : Inv X pins σ H s) (k : ∀ b o, b ≠ it → s.heap.get? b = some o → h'.get? b = some o) (hn : H it = none) (hL : it ≠ X.env.locals)
    (h1 : it ∈ X.ex ∨ X.s_0.heap.objs.size ≤ it) (h2 : ∀ x c, X.env.cells.lookup x = some c → c ≠ it) (h3 : ∀ p ∈ X.pn ++ pins, p.1 ≠ it) : Inv X pins σ H { s with heap := h', toks := t' } := by
  have nit : ∀ b u, H b = some u → b ≠ it := fun b u e z => by rw [z, hn] at e; cases e
  refine I.step (g' := s.gens) (d' := s.drawn) (ch := [it]) (fun b hb => ?_) (fun b o _ _ hc e _ => k b o (fun z => hc (by simp [z])) e) (fun b o _ _ hc e _ => ⟨o.slots, k b o (fun z => hc (by simp [z])) e⟩) (fun _ _ _ _ n => n)
    (fun b o hc e => ⟨o, k b o (fun z => hc (by simp [z])) e⟩) (fun _ _ e => e) (fun _ _ _ e => e) (fun b ps e => ⟨#[], by rw [e]; simp⟩) (fun m hm => ?_) (fun b u e => ?_) I.bare
  · have e : b = it := by simpa using hb
    subst e
    exact ⟨h1, hL, h2, h3⟩
  · obtain ⟨o, es, ep, ho, r⟩ := hm
    exact ⟨o, es, ep, k _ o (Ne.symm hL) ho, r⟩
  · refine (I.hok b u e).stay (fun c v hc q => k c v ?_ q) (fun _ q => q) fun _ _ q => q
    rcases hc with z | z
    · rw [z]; exact nit b u e
    · exact nit c _ z
theorem Inv.tok (I : Inv X pins σ H s) (t : Nat) : Inv X pins σ H { s with toks := t } := I.un (h' := s.heap) (t' := t) Un.refl I.hok
theorem Inv.kept {t' : Nat} (I : Inv X pins σ H s) (k : ∀ b u, s.heap.get? b = some u → h'.get? b = some u) : Inv X pins σ H { s with heap := h', toks := t' } := I.un (Un.kept k) (I.hok.kept k)
theorem Inv.laid {a : Addr} {o : HO} {t' : Nat} (I : Inv X pins σ H s) (k : ∀ b u, s.heap.get? b = some u → h'.get? b = some u) (hp : s.heap.objs.size ≤ a) (new : ObjOk X.prog X.w (upd H a o) h' a o) :
    Inv X pins σ (upd H a o) { s with heap := h', toks := t' } := I.un (Un.laid k hp (I.hok.fresh hp)) (I.hok.laid k hp new)
theorem Inv.write {x e : Addr} {o : HO} {t' : Nat} (I : Inv X pins σ H s) (mu : Mut (H x)) (he : e = x ∨ H e = some (.own x)) (k : ∀ b u, b ≠ e → s.heap.get? b = some u → h'.get? b = some u) (heo : ∃ u, h'.get? e = some u)
    (new : ObjOk X.prog X.w (upd H x o) h' x o) : Inv X pins σ (upd H x o) { s with heap := h', toks := t' } := I.un (Un.write mu he k heo) (I.hok.write mu he k heo new)
theorem Inv.weak {σ' : List (Option V)} (I : Inv X pins σ H s) (hl : σ'.length = σ.length) (w : ∀ (i : Nat) v, σ'[i]? = some (some v) → σ[i]? = some (some v)) : Inv X pins σ' H s :=
  ⟨I.ok, I.os, I.bare, I.base, let ⟨m, hn, hl'⟩ := I.loc; ⟨m, hn, fun i x v e1 e2 e3 => hl' i x v e1 (w i v e2) e3⟩, I.cell, I.free, I.freeC, I.pin, I.hok, hl.trans I.len⟩
theorem Inv.pins_of {pins' : List (Addr × Obj)} (I : Inv X pins σ H s) (h : ∀ p ∈ pins', s.heap.get? p.1 = some p.2 ∧ H p.1 = none ∧ p.1 ≠ X.env.locals ∧ p.1 ∉ X.fs ∧ ∀ v, p.2.data ≠ .cell v) : Inv X pins' σ H s :=
  ⟨I.ok, I.os, I.bare, I.base, I.loc, I.cell, I.free, I.freeC, fun p hp => (List.mem_append.mp hp).elim (fun z => I.pin p (List.mem_append_left _ z)) (h p), I.hok, I.len⟩
theorem nodup_ix {N : List Str} (hN : N.Nodup) {i j : Nat} {x : Str} (a : N[i]? = some x) (b : N[j]? = some x) : i = j := by
  obtain ⟨h1, e1⟩ := List.getElem?_eq_some_iff.mp a
  obtain ⟨h2, e2⟩ := List.getElem?_eq_some_iff.mp b
  exact (List.getElem_inj hN).mp (e1.trans e2.symm)
theorem store_ok2 {M : Model} {A : Around} {E : Value → Shared → Prop} {i : Nat} {x : Str} {v : V} {u : Value} {Q : Unit → Shared → Prop} (I : Inv X pins σ H s) (hN : X.N.Nodup) (hi : X.N[i]? = some x) (hx : Loc X.env.scope x) (r : RelV v u)
    (h : ∀ s', Inv X pins (σ.set i (some v)) H s' → (∃ a, Heap.SameBut a s.heap s'.heap ∧ (a = X.env.locals ∨ X.env.cells.lookup x = some a)) → Q () s') (hf : X.fn x = true ∨ X.env.scope.names.lookup x = some .local := by first | exact .inl rfl | exact .inr rfl | assumption) : wpAny M A (storeName X.env x u) Q E s := by
  obtain ⟨m, hn, hl⟩ := id I.loc
  have hcls : (X.env.scope.kind == .class || (X.env.scope.kind == .module && X.env.locals != X.env.globals)) = false := by rw [I.ok.kind]; rfl
  have hiσ : i < σ.length := by rw [I.len]; exact (List.getElem?_eq_some_iff.mp hi).1
  have cne := I.cne
  have tracked : ∀ {a : Addr} {h' : Heap}, (∃ o, s.heap.get? a = some o ∧ H a = none) → Heap.SameBut a s.heap h' → HOk X.prog X.w H h' := fun {a h'} ha hs b ob e => by
    obtain ⟨_, _, hfree⟩ := ha
    refine (I.hok b ob e).stay (fun c w' hc q => (hs.2 c ?_).trans q) (fun _ q => q) fun _ _ q => q
    rintro rfl
    rcases hc with rfl | hc
    · rw [hfree] at e; cases e
    · rw [hfree] at hc; cases hc
  rcases hx with hk | hk
  · refine wpAny_storeName_local hk hn (fun h' hn' hs => ?_) hcls
    obtain ⟨oL, _, _, hoL, _⟩ := id hn
    refine h _ ⟨I.ok, I.os, I.bare, ⟨fun b o e n hb hx => ?_, fun b o e n hb hx => ?_, I.base.free, fun b o e hx => ?_, I.base.tups, I.base.frzs, I.base.tbls⟩, ⟨_, hn', fun j y v' e1 e2 e3 => ?_⟩, fun y c e => ?_, I.free, I.freeC, fun p hp => ?_, tracked ⟨oL, hoL, I.free⟩ hs, by simpa using I.len⟩ ⟨_, hs, .inl rfl⟩
    · exact (hs.2 b (Nat.ne_of_lt (Nat.lt_of_lt_of_le (Heap.lt_size e) I.ok.above))).trans (I.base.keep b o e n hb hx)
    · obtain ⟨sl, e1⟩ := I.base.slot b o e n hb hx
      exact ⟨sl, (hs.2 b (Nat.ne_of_lt (Nat.lt_of_lt_of_le (Heap.lt_size e) I.ok.above))).trans e1⟩
    · obtain ⟨o', e1⟩ := I.base.there b o e hx
      exact ⟨o', (hs.2 b (Nat.ne_of_lt (Nat.lt_of_lt_of_le (Heap.lt_size e) I.ok.above))).trans e1⟩
    · by_cases hj : j = i
      · subst hj
        rw [hi] at e1; cases e1
        rw [List.getElem?_set_self hiσ] at e2
        cases e2
        exact ⟨u, r, .inl ⟨hk, by simp⟩⟩
      · rw [List.getElem?_set_ne (Ne.symm hj)] at e2
        obtain ⟨u', r', q⟩ := hl j y v' e1 e2 e3
        refine ⟨u', r', ?_⟩
        rcases q with ⟨k, e⟩ | ⟨k, c, e, z⟩
        · refine .inl ⟨k, ?_⟩
          have : y ≠ x := fun e => hj (nodup_ix hN e1 (e ▸ hi))
          simp [this, e]
        · exact .inr ⟨k, c, e, z.sameBut hs (cne y c e)⟩
    · obtain ⟨w', z⟩ := I.cell y c e
      exact ⟨w', z.sameBut hs (cne y c e)⟩
    · obtain ⟨e, n, ne, nf, d⟩ := I.pin p hp
      exact ⟨(hs.2 p.1 ne).trans e, n, ne, nf, d⟩
  · have hfn : X.fn x = true := by
      rcases hf with z | z
      · exact z
      · rw [z] at hk; cases hk
    obtain ⟨c, hc⟩ := I.ok.has x (.inl hk)
    obtain ⟨w', z⟩ := I.cell x c hc
    refine wpAny_storeName_cell I.ok.kind hk hc z (fun h' hc' hs => ?_)
    obtain ⟨oc, hoc, hocd⟩ := id z
    refine h { s with heap := h' } ⟨I.ok, I.os, I.bare, ⟨fun b o e n hb hx => ?_, fun b o e n hb hx => ?_, I.base.free, fun b o e hx => ?_, I.base.tups, I.base.frzs, I.base.tbls⟩, ⟨m, hn.sameBut hs (Ne.symm (cne x c hc)), fun j y v' e1 e2 e3 => ?_⟩, fun y c' e => ?_, I.free, I.freeC, fun p hp => ?_, tracked ⟨oc, hoc, I.freeC x c hc⟩ hs, by simpa using I.len⟩ ⟨c, hs, .inr hc⟩
    · exact (hs.2 b (Nat.ne_of_lt (Nat.lt_of_lt_of_le (Heap.lt_size e) (I.ok.cab x c hfn hc)))).trans (I.base.keep b o e n hb hx)
    · obtain ⟨sl, e1⟩ := I.base.slot b o e n hb hx
      exact ⟨sl, (hs.2 b (Nat.ne_of_lt (Nat.lt_of_lt_of_le (Heap.lt_size e) (I.ok.cab x c hfn hc)))).trans e1⟩
    · obtain ⟨o', e1⟩ := I.base.there b o e hx
      exact ⟨o', (hs.2 b (Nat.ne_of_lt (Nat.lt_of_lt_of_le (Heap.lt_size e) (I.ok.cab x c hfn hc)))).trans e1⟩
    · by_cases hj : j = i
      · subst hj
        rw [hi] at e1; cases e1
        rw [List.getElem?_set_self hiσ] at e2
        cases e2
        exact ⟨u, r, .inr ⟨.inl hk, c, hc, hc'⟩⟩
      · rw [List.getElem?_set_ne (Ne.symm hj)] at e2
        obtain ⟨u', r', q⟩ := hl j y v' e1 e2 e3
        refine ⟨u', r', ?_⟩
        rcases q with q | ⟨k, c', e, z'⟩
        · exact .inl q
        · refine .inr ⟨k, c', e, z'.sameBut hs ?_⟩
          rintro rfl
          exact hj (nodup_ix hN e1 (I.ok.inj _ _ _ e hc ▸ hi))
    · by_cases hcc : c' = c
      · subst hcc; exact ⟨_, hc'⟩
      · obtain ⟨w2, z2⟩ := I.cell y c' e
        exact ⟨w2, z2.sameBut hs hcc⟩
    · obtain ⟨e, n, ne, nf, d⟩ := I.pin p hp
      refine ⟨(hs.2 p.1 ?_).trans e, n, ne, nf, d⟩
      intro q
      rw [q, hoc] at e
      have q' : oc = p.2 := Option.some.inj e
      exact d w' (by rw [← q']; exact hocd)
theorem store_ok {M : Model} {A : Around} {E : Value → Shared → Prop} {i : Nat} {x : Str} {v : V} {u : Value} {Q : Unit → Shared → Prop} (I : Inv X pins σ H s) (hN : X.N.Nodup) (hi : X.N[i]? = some x) (hx : Loc X.env.scope x) (r : RelV v u)
    (h : ∀ s', Inv X pins (σ.set i (some v)) H s' → Q () s') (hf : X.fn x = true ∨ X.env.scope.names.lookup x = some .local := by first | exact .inl rfl | exact .inr rfl | assumption) : wpAny M A (storeName X.env x u) Q E s :=
  store_ok2 I hN hi hx r (fun s' I' _ => h s' I') hf
theorem Inv.call' {s' : Shared} {ch : List Addr} (I : Inv X pins σ H s) (ho : s'.os = s.os) (u : Un (frs X.stack) ch H H' s.heap s'.heap) (hok : HOk X.prog X.w H' s'.heap) (hg : AllBare s'.gens)
    (hch : ∀ b ∈ ch, (b ∈ X.ex ∨ X.s_0.heap.objs.size ≤ b) ∧ b ≠ X.env.locals ∧ (∀ x c, X.env.cells.lookup x = some c → c ≠ b) ∧ ∀ p ∈ X.pn ++ pins, p.1 ≠ b) : Inv X pins σ H' s' := by
  obtain ⟨h', g', d', t', o'⟩ := s'
  have e : o' = s.os := ho
  subst e
  exact I.call (g' := g') (t' := t') (d' := d') u hok hg hch
end
abbrev XK := Value → Option Addr → Hp → Prop
abbrev St := List (Option V)
abbrev VK := V → Hp → Prop
abbrev TE := St → Hp → VK → Prop
abbrev TT := St → Hp → (Bool → Hp → Prop) → Prop
abbrev TA := St → Hp → (List V → Hp → Prop) → Prop
/-- what is wanted behind a statement -/
structure Ends where
  nx : St → Hp → Prop
  rt : VK
  bk : St → Hp → Prop := fun _ _ => False
  ct : St → Hp → Prop := fun _ _ => False
abbrev TS := Ends → St → Hp → Prop
def EP (X : Cx) (pins : List (Addr × Obj)) (σ : St) (Q : VK) (u : Value) (s' : Shared) : Prop := ∃ v H', Inv X pins σ H' s' ∧ RelV v u ∧ Q v H'
def TP (X : Cx) (pins : List (Addr × Obj)) (σ : St) (Q : Bool → Hp → Prop) (b : Bool) (s' : Shared) : Prop := ∃ H', Inv X pins σ H' s' ∧ Q b H'
def AP (X : Cx) (pins : List (Addr × Obj)) (σ : St) (Q : List V → Hp → Prop) (us : List Value) (s' : Shared) : Prop := ∃ vs H', Inv X pins σ H' s' ∧ Vals vs us ∧ Q vs H'
def SP (X : Cx) (pins : List (Addr × Obj)) (D : Ends) (f : Flow) (s' : Shared) : Prop :=
  match f with
  | .next => ∃ σ' H', Inv X pins σ' H' s' ∧ D.nx σ' H'
  | .brk => ∃ σ' H', Inv X pins σ' H' s' ∧ D.bk σ' H'
  | .cont => ∃ σ' H', Inv X pins σ' H' s' ∧ D.ct σ' H'
  | .ret u => ∃ v σ' H', Inv X pins σ' H' s' ∧ RelV v u ∧ D.rt v H'
def PE (X : Cx) (e : Expr) (t : TE) : Prop :=
  ∀ (pins : List (Addr × Obj)) (s : Shared) (σ : St) (H : Hp) (Q : VK), Inv X pins σ H s → t σ H Q → wpAny (model X.prog X.w) X.A (eval e X.env) (EP X pins σ Q) X.xe s
def PT (X : Cx) (e : Expr) (t : TT) : Prop :=
  ∀ (pins : List (Addr × Obj)) (s : Shared) (σ : St) (H : Hp) (Q : Bool → Hp → Prop), Inv X pins σ H s → t σ H Q → wpAny (model X.prog X.w) X.A (isTrue e X.env (eval e X.env)) (TP X pins σ Q) X.xe s
def PW (X : Cx) (e : Expr) (t : TT) : Prop :=
  ∀ (whole : Sem Value) (pins : List (Addr × Obj)) (s : Shared) (σ : St) (H : Hp) (Q : Bool → Hp → Prop), Inv X pins σ H s → t σ H Q → wpAny (model X.prog X.w) X.A (isTrue e X.env whole) (TP X pins σ Q) X.xe s
theorem PW.pt {X : Cx} {e : Expr} {t : TT} (h : PW X e t) : PT X e t := h _
def PA (X : Cx) (es : List Expr) (t : TA) : Prop :=
  ∀ (pos : Pos) (pins : List (Addr × Obj)) (s : Shared) (σ : St) (H : Hp) (Q : List V → Hp → Prop), Inv X pins σ H s → t σ H Q → wpAny (model X.prog X.w) X.A (spliced (backTo pos (starEach es X.env))) (AP X pins σ Q) X.xe s
def PS (X : Cx) (st : Stmt) (t : TS) : Prop :=
  ∀ (pins : List (Addr × Obj)) (s : Shared) (σ : St) (H : Hp) (D : Ends), Inv X pins σ H s → t D σ H → wpAny (model X.prog X.w) X.A (exec st X.env) (SP X pins D) X.xe s
def PSs (X : Cx) (st : List Stmt) (t : TS) : Prop :=
  ∀ (pins : List (Addr × Obj)) (s : Shared) (σ : St) (H : Hp) (D : Ends), Inv X pins σ H s → t D σ H → wpAny (model X.prog X.w) X.A (execs st X.env) (SP X pins D) X.xe s
theorem thn {α : Type} {t : Sem α} {Q Q' : α → Shared → Prop} {M : Model} {A : Around} {E : Value → Shared → Prop} {s : Shared} (h : wpAny M A t Q E s) (hQ : ∀ a s, Q a s → Q' a s) : wpAny M A t Q' E s := wpAny_mono h hQ fun _ _ x => x
end L2
namespace L2
open PySem PySem.Spec PyProof.Rows
section
variable {X : Cx}
def tVar (i : Nat) : TE := fun σ H Q => ∃ v, σ[i]? = some (some v) ∧ Q v H
def tC (v : V) : TE := fun _ H Q => Q v H
theorem pe_var {i : Nat} {x : Str} {pos : Pos} (hN : X.N[i]? = some x) (hv : Vis X.env.scope x) (hd : (x == ("__debug__" : Str)) = false := by decide) (hcd : (x == ("__classdict__" : Str)) = false := by decide) : PE X (.Name x pos) (tVar i) := by
  intro pins s σ H Q I h
  obtain ⟨v, e, h⟩ := h
  obtain ⟨m, hn, hl⟩ := I.loc
  obtain ⟨u, r, l⟩ := hl i x v hN e hv
  have fin : EP X pins σ Q u s := ⟨v, H, I, r, h⟩
  rcases l with ⟨hk, hm⟩ | ⟨hk, c, hc, hcell⟩
  · exact wpAny_Name (wpAny_loadName_local I.ok.kind hk hn hm fin) hd
  · rcases hk with hk | hk
    · exact wpAny_Name (wpAny_loadName_cell I.ok.kind hk hc hcell fin) hd
    · exact wpAny_Name (wpAny_loadName_free I.ok.kind hk hc hcell fin hcd) hd
theorem pe_int {i j pos} : PE X (.Constant (.int i) j pos) (tC (.int i)) := fun _ _ _ H _ I h => wpAny_Constant_int ⟨.int i, H, I.tok _, ⟨_, rfl⟩, h⟩
theorem pe_bl {b j pos} : PE X (.Constant (.bool b) j pos) (tC (.bl b)) := fun _ _ _ H _ I h => Constant_bool ⟨.bl b, H, I, rfl, h⟩
theorem pe_non {j pos} : PE X (.Constant .none j pos) (tC .non) := fun _ _ _ H _ I h => Constant_none ⟨.non, H, I, rfl, h⟩
def Gl (X : Cx) (x : Str) : Prop := X.env.kindOf x = some .globalImplicit
theorem ld_glob {E : Value → Shared → Prop} {pins : List (Addr × Obj)} {s : Shared} {σ : St} {H : Hp} {x : Str} {u : Value} {pos : Pos} {Q : Value → Shared → Prop} (I : Inv X pins σ H s) (hg : Gl X x) (hm : X.mg x = some u) (h : Q u s)
    (hd : (x == ("__debug__" : Str)) = false := by decide) : wpAny (model X.prog X.w) X.A (eval (.Name x pos) X.env) Q E s :=
  Calls.Name_function_global I.ok.kind hg (Calls.loadGlobal_global (by rw [I.ok.glob]; exact I.mod.glob.keeps I.bk) hm h) hd
theorem ld_blt {E : Value → Shared → Prop} {pins : List (Addr × Obj)} {s : Shared} {σ : St} {H : Hp} {x : Str} {u : Value} {pos : Pos} {Q : Value → Shared → Prop} (I : Inv X pins σ H s) (hg : Gl X x) (hm : X.mg x = none) (hv : bootBuiltins x = some u) (h : Q u s)
    (hn : x ≠ "__name__" := by decide) (hd : (x == ("__debug__" : Str)) = false := by decide) : wpAny (model X.prog X.w) X.A (eval (.Name x pos) X.env) Q E s := by
  obtain ⟨mb, h1, h2⟩ := I.mod.blt
  exact Calls.Name_function_global I.ok.kind hg (Calls.loadGlobal_builtin (by rw [I.ok.glob]; exact I.mod.glob.keeps I.bk) hm (by rw [I.ok.blt]; exact h1.keeps I.bk) ((h2 x hn).trans hv) h) hd
theorem pe_glob {x : Str} {v : V} {u : Value} {pos : Pos} (hg : Gl X x) (hm : X.mg x = some u) (r : RelV v u) (hd : (x == ("__debug__" : Str)) = false := by decide) : PE X (.Name x pos) (tC v) :=
  fun _ _ _ H _ I h => ld_glob I hg hm ⟨v, H, I, r, h⟩ hd
variable {a b : Expr} {ta tb : TE} {pos : Pos}
def tB (t : TE) : TT := fun σ H Q => t σ H fun x H1 => ∃ c, x = .bl c ∧ Q c H1
theorem pt_val {e : Expr} {t : TE} (h : PE X e t) (he : ∀ whole, isTrue e X.env whole = (do let v ← whole; standAt e.pos; holding [v] (truthy v)) := by intro _; rfl) : PT X e (tB t) := by
  intro pins s σ H Q I hw
  refine isTrue_plain (thn (h pins s σ H _ I hw) fun v s1 ⟨x, H1, I1, r1, q1⟩ => ?_) (he _)
  obtain ⟨d, rfl, q⟩ := q1
  cases r1
  exact wpAny_truthy_bool ⟨H1, I1, q⟩
variable {tA tB' : TT} {rest : List Expr}
def tAnd (t u : TT) : TT := fun σ H Q => t σ H fun c H1 => if c = true then u σ H1 Q else Q false H1
def tOr (t u : TT) : TT := fun σ H Q => t σ H fun c H1 => if c = true then Q true H1 else u σ H1 Q
def tNot (t : TT) : TT := fun σ H Q => t σ H fun c H1 => Q (!c) H1
theorem pw_and1 (ha : PT X a tA) : PW X (.BoolOp .And [a] pos) tA := by
  intro wh pins s σ H Q I h
  refine isTrue_and (thn (ha pins s σ H Q I h) fun c s1 e => ?_)
  cases c with
  | true => exact isTrue_and_nil e
  | false => exact e
theorem pw_or1 (ha : PT X a tA) : PW X (.BoolOp .Or [a] pos) tA := by
  intro wh pins s σ H Q I h
  refine isTrue_or (thn (ha pins s σ H Q I h) fun c s1 e => ?_)
  cases c with
  | false => exact isTrue_or_nil e
  | true => exact e
theorem pw_and (ha : PT X a tA) (hb : PW X (.BoolOp .And (b :: rest) pos) tB') : PW X (.BoolOp .And (a :: b :: rest) pos) (tAnd tA tB') := by
  intro wh pins s σ H Q I h
  refine isTrue_and (thn (ha pins s σ H _ I h) fun c s1 ⟨H1, I1, q1⟩ => ?_)
  cases c with
  | true => exact hb wh pins s1 σ H1 Q I1 q1
  | false => exact ⟨H1, I1, q1⟩
theorem pw_or (ha : PT X a tA) (hb : PW X (.BoolOp .Or (b :: rest) pos) tB') : PW X (.BoolOp .Or (a :: b :: rest) pos) (tOr tA tB') := by
  intro wh pins s σ H Q I h
  refine isTrue_or (thn (ha pins s σ H _ I h) fun c s1 ⟨H1, I1, q1⟩ => ?_)
  cases c with
  | true => exact ⟨H1, I1, q1⟩
  | false => exact hb wh pins s1 σ H1 Q I1 q1
theorem pt_not (ha : PT X a tA) : PT X (.UnaryOp .Not a pos) (tNot tA) := by
  intro pins s σ H Q I h
  exact isTrue_not (ha pins s σ H (fun c H1 => Q (!c) H1) I h)
def tAndV (ta tb : TE) : TE := fun σ H Q => ta σ H fun x H1 => ∃ c, x = .bl c ∧ if c = true then tb σ H1 Q else Q (.bl false) H1
def tNotV (ta : TE) : TE := fun σ H Q => ta σ H fun x H1 => ∃ c, x = .bl c ∧ Q (.bl (!c)) H1
theorem pe_one {op} {t : TE} (h : PE X a t) : PE X (.BoolOp op [a] pos) t := fun pins s σ H Q I hw => BoolOp_one (h pins s σ H Q I hw)
theorem pe_and (ha : PE X a ta) (hb : PE X (.BoolOp .And (b :: rest) pos) tb) : PE X (.BoolOp .And (a :: b :: rest) pos) (tAndV ta tb) := by
  intro pins s σ H Q I h
  refine BoolOp_and (thn (ha pins s σ H _ I h) fun v s1 ⟨x, H1, I1, r1, q1⟩ => ?_)
  obtain ⟨c, rfl, q1⟩ := q1
  cases r1
  refine wpAny_truthy_bool ?_
  cases c with
  | true => exact hb pins s1 σ H1 Q I1 q1
  | false => exact ⟨.bl false, H1, I1, rfl, q1⟩
theorem pe_not (ha : PE X a ta) : PE X (.UnaryOp .Not a pos) (tNotV ta) := by
  intro pins s σ H Q I h
  refine UnaryOp_ (thn (ha pins s σ H _ I h) fun v s1 ⟨x, H1, I1, r1, q1⟩ => ?_)
  obtain ⟨c, rfl, q1⟩ := q1
  cases r1
  exact not_of (wpAny_truthy_bool ⟨.bl (!c), H1, I1, rfl, q1⟩)
end
end L2
namespace L2
open PySem PySem.Spec PyProof.Rows
def SqL (K : PySem.W.Frag) (H : Hp) (a : Addr) (xs : List V) : Prop :=
  Rd H a (.lst xs) ∨
    ∃ (o : Obj) (its : Array Value) (n : Nat), K.lookup a = some o ∧ o.cls = .type "list" ∧ o.dict = none ∧ o.data = .seq its n ∧ its.size ≤ sizeLine ∧ Vals xs its.toList
def SqT (K : PySem.W.Frag) (H : Hp) (a : Addr) (xs : List V) : Prop :=
  Rd H a (.tup xs) ∨
    ∃ (o : Obj) (its : Array Value) (n : Nat), K.lookup a = some o ∧ o.cls = .type "tuple" ∧ o.data = .seq its n ∧ its.size ≤ sizeLine ∧ Vals xs its.toList
def absV : Value → Option V
  | .none => some .non
  | .bool b => some (.bl b)
  | .int i _ => some (.int i)
  | .str x _ => some (.str x)
  | .bytes b _ => some (.byt b)
  | .float b _ => some (.flt b)
  | .ref a => some (.ref a)
  | .type n => some (.ty n)
  | _ => none
theorem RelV.abs {x : V} {u : Value} (r : RelV x u) : absV u = some x := by
  cases x with
  | non => cases r; rfl
  | bl _ => cases r; rfl
  | int _ => obtain ⟨t, rfl⟩ := r; rfl
  | str _ => obtain ⟨t, rfl⟩ := r; rfl
  | byt _ => obtain ⟨t, rfl⟩ := r; rfl
  | flt _ => obtain ⟨t, rfl⟩ := r; rfl
  | ref _ => cases r; rfl
  | ty _ => cases r; rfl
theorem RelV.inj {x y : V} {u : Value} (r : RelV x u) (q : RelV y u) : x = y := Option.some.inj (r.abs.symm.trans q.abs)
theorem Vals.inj : ∀ {xs ys : List V} {us : List Value}, Vals xs us → Vals ys us → xs = ys
  | _, _, _, .nil, .nil => rfl
  | _, _, _, .cons r t, .cons r' t' => by rw [r.inj r', Vals.inj t t']
section
variable {X : Cx} {pins : List (Addr × Obj)} {σ : St} {H : Hp} {s : Shared} {a : Addr} {xs ys : List V}
theorem SqL.of {K : PySem.W.Frag} (h : H a = some (.lst xs)) : SqL K H a xs := .inl (.inl h)
theorem SqT.of {K : PySem.W.Frag} (h : H a = some (.tup xs)) : SqT K H a xs := .inl (.inl h)
theorem Inv.list (I : Inv X pins σ H s) (h : SqL X.K H a xs) : ∃ its : List Value, Vals xs its ∧ PlainL s.heap a its.toArray ∧ xs.length ≤ sizeLine := by
  rcases h with h | ⟨o, its, n, hk, hc, hd, hs, hz, r⟩
  · obtain ⟨z, its, n, r, e⟩ := h.ok I.hok
    exact ⟨its, r, ⟨_, n, e, rfl, rfl, rfl⟩, z⟩
  · refine ⟨its.toList, r, ⟨o, n, I.kIn a o hk, hc, hd, by simpa using hs⟩, ?_⟩
    have e := r.length
    simp only [Array.length_toList] at e
    omega
theorem Inv.tuple (I : Inv X pins σ H s) (h : SqT X.K H a xs) : ∃ its : List Value, Vals xs its ∧ IsTup s.heap a its.toArray ∧ xs.length ≤ sizeLine := by
  rcases h with h | ⟨o, its, n, hk, hc, hs, hz, r⟩
  · obtain ⟨z, its, r, p⟩ := h.ok I.hok
    exact ⟨its, r, p, z⟩
  · refine ⟨its.toList, r, ⟨o, I.kIn a o hk, hc, n, by simpa using hs⟩, ?_⟩
    have e := r.length
    simp only [Array.length_toList] at e
    omega
theorem Inv.list_inj (I : Inv X pins σ H s) (h : SqL X.K H a xs) (h' : SqL X.K H a ys) : xs = ys := by
  obtain ⟨its, r, ⟨o, n, e, _, _, d⟩, _⟩ := I.list h
  obtain ⟨its', r', ⟨o', n', e', _, _, d'⟩, _⟩ := I.list h'
  rw [e] at e'; cases e'
  rw [d] at d'
  injection d' with d1 _
  have : its = its' := by simpa using congrArg Array.toList d1
  subst this
  exact r.inj r'
theorem Inv.tuple_inj (I : Inv X pins σ H s) (h : SqT X.K H a xs) (h' : SqT X.K H a ys) : xs = ys := by
  obtain ⟨its, r, ⟨o, e, _, n, d⟩, _⟩ := I.tuple h
  obtain ⟨its', r', ⟨o', e', _, n', d'⟩, _⟩ := I.tuple h'
  rw [e] at e'; cases e'
  rw [d] at d'
  injection d' with d1 _
  have : its = its' := by simpa using congrArg Array.toList d1
  subst this
  exact r.inj r'
end
abbrev Cx.wish (X : Cx) (E : Value → Shared → Prop) : Cx := { X with xe := E }
abbrev Cx.nox (X : Cx) : Cx := X.wish fun _ _ => False
theorem Cx.Ok.wish {X : Cx} (ok : X.Ok) (E : Value → Shared → Prop) : (X.wish E).Ok :=
  ⟨ok.mod, ok.kind, ok.glob, ok.blt, ok.above, ok.inj, ok.has, ok.cab, ok.hd, ok.frames, ok.stk, ok.exf, ok.bs, ok.bsz, ok.noex, ok.exfs, ok.funs, ok.frf⟩
theorem Cx.Ok.unwish {X : Cx} {E : Value → Shared → Prop} (ok : (X.wish E).Ok) : X.Ok :=
  ⟨ok.mod, ok.kind, ok.glob, ok.blt, ok.above, ok.inj, ok.has, ok.cab, ok.hd, ok.frames, ok.stk, ok.exf, ok.bs, ok.bsz, ok.noex, ok.exfs, ok.funs, ok.frf⟩
section
variable {X : Cx} {pins : List (Addr × Obj)} {σ : St} {H : Hp} {s : Shared} {E : Value → Shared → Prop}
theorem Inv.wish (I : Inv X pins σ H s) (E : Value → Shared → Prop) : Inv (X.wish E) pins σ H s := ⟨I.ok.wish E, I.os, I.bare, I.base, I.loc, I.cell, I.free, I.freeC, I.pin, I.hok, I.len⟩
theorem Inv.unwish (I : Inv (X.wish E) pins σ H s) : Inv X pins σ H s := ⟨I.ok.unwish, I.os, I.bare, I.base, I.loc, I.cell, I.free, I.freeC, I.pin, I.hok, I.len⟩
theorem SP.unwish {D : Ends} {f : Flow} {s' : Shared} (h : SP (X.wish E) pins D f s') : SP X pins D f s' := by
  cases f with
  | next => obtain ⟨σ', H', I, q⟩ := h; exact ⟨σ', H', I.unwish, q⟩
  | brk => obtain ⟨σ', H', I, q⟩ := h; exact ⟨σ', H', I.unwish, q⟩
  | cont => obtain ⟨σ', H', I, q⟩ := h; exact ⟨σ', H', I.unwish, q⟩
  | ret u => obtain ⟨v, σ', H', I, r, q⟩ := h; exact ⟨v, σ', H', I.unwish, r, q⟩
theorem PE.nox {e : Expr} {t : TE} (h : PE X.nox e t) : PE X e t := fun pins s σ H Q I hw =>
  wpAny_mono (h pins s σ H Q (I.wish _) hw) (fun _ _ ⟨v, H', I', r, q⟩ => ⟨v, H', I'.unwish, r, q⟩) fun _ _ z => False.elim z
theorem PT.nox {e : Expr} {t : TT} (h : PT X.nox e t) : PT X e t := fun pins s σ H Q I hw =>
  wpAny_mono (h pins s σ H Q (I.wish _) hw) (fun _ _ ⟨H', I', q⟩ => ⟨H', I'.unwish, q⟩) fun _ _ z => False.elim z
theorem PSs.nox {st : List Stmt} {t : TS} (h : PSs X.nox st t) : PSs X st t := fun pins s σ H D I hw =>
  wpAny_mono (h pins s σ H D (I.wish _) hw) (fun _ _ q => q.unwish) fun _ _ z => False.elim z
end
section
variable {X : Cx} {st : Stmt} {rest : List Stmt} {t u : TS} {e : Expr} {te : TE} {pos : Pos}
def tNext : TS := fun D σ H => D.nx σ H
def tSeq (t u : TS) : TS := fun D σ H => t { D with nx := u D } σ H
theorem pss_nil : PSs X [] tNext := fun _ _ σ H _ I h => wpAny_execs_nil ⟨σ, H, I, h⟩
theorem pss_cons (h1 : PS X st t) (h2 : PSs X rest u) : PSs X (st :: rest) (tSeq t u) := by
  intro pins s σ H D I h
  refine wpAny_execs_cons (thn (h1 pins s σ H { D with nx := u D } I h) fun f s1 q => ?_)
  cases f with
  | next =>
    obtain ⟨σ', H', I', q⟩ := q
    exact h2 pins s1 σ' H' D I' q
  | ret v => exact q
  | brk => exact q
  | cont => exact q
theorem pss_one (h1 : PS X st t) : PSs X [st] t := by
  intro pins s σ H D I h
  refine wpAny_execs_cons (thn (h1 pins s σ H D I h) fun f s1 q => ?_)
  cases f with
  | next => exact wpAny_execs_nil q
  | ret v => exact q
  | brk => exact q
  | cont => exact q
def tRet (te : TE) : TS := fun D σ H => te σ H D.rt
theorem ps_ret (he : PE X e te) : PS X (.Return (some e) pos) (tRet te) := by
  intro pins s σ H D I h
  exact wpAny_Return_some (thn (he pins s σ H _ I h) fun v s1 ⟨x, H1, I1, r1, q1⟩ => ⟨x, σ, H1, I1, r1, q1⟩)
def tIfS (c : TT) (t u : TS) : TS := fun D σ H => c σ H fun b H1 => if b = true then t D σ H1 else u D σ H1
theorem ps_if {c : Expr} {a b : List Stmt} {tc : TT} (hc : PT X c tc) (ha : PSs X a t) (hb : PSs X b u) : PS X (.If c a b pos) (tIfS tc t u) := by
  intro pins s σ H D I h
  refine wpAny_If (thn (hc pins s σ H _ I h) fun d s1 ⟨H1, I1, q1⟩ => ?_)
  cases d with
  | true => exact ha pins s1 σ H1 D I1 q1
  | false => exact hb pins s1 σ H1 D I1 q1
end
abbrev TG := V → St → Hp → (St → Hp → Prop) → Prop
abbrev TGs := List V → St → Hp → (St → Hp → Prop) → Prop
def PG (X : Cx) (target : Expr) (t : TG) : Prop :=
  ∀ (pins : List (Addr × Obj)) (s : Shared) (σ : St) (H : Hp) (v : V) (u : Value) (Q : St → Hp → Prop), Inv X pins σ H s → RelV v u → t v σ H Q →
    wpAny (model X.prog X.w) X.A (assign target X.env u) (fun _ s' => ∃ σ' H', Inv X pins σ' H' s' ∧ Q σ' H') X.xe s
def PGs (X : Cx) (ts : List Expr) (t : TGs) : Prop :=
  ∀ (pins : List (Addr × Obj)) (s : Shared) (σ : St) (H : Hp) (vs : List V) (us : List Value) (Q : St → Hp → Prop), Inv X pins σ H s → Vals vs us → t vs σ H Q →
    wpAny (model X.prog X.w) X.A (assignInOrder ((assignEach ts X.env).map (·.2)) us) (fun _ s' => ∃ σ' H', Inv X pins σ' H' s' ∧ Q σ' H') X.xe s
section
variable {X : Cx} {pos : Pos}
def gName (i : Nat) : TG := fun v σ H Q => Q (σ.set i (some v)) H
theorem pg_name {i : Nat} {x : Str} (hN : X.N.Nodup) (hi : X.N[i]? = some x) (hx : Loc X.env.scope x) (hf : X.fn x = true ∨ X.env.scope.names.lookup x = some .local := by first | exact .inl rfl | exact .inr rfl | assumption) : PG X (.Name x pos) (gName i) := by
  intro pins s σ H v u Q I r h
  exact wpAny_assign_Name (store_ok I hN hi hx r (fun s' I' => ⟨_, H, I', h⟩) hf)
def gNil : TGs := fun vs σ H Q => vs = [] ∧ Q σ H
def gCons (t : TG) (u : TGs) : TGs := fun vs σ H Q => ∃ v r, vs = v :: r ∧ t v σ H fun σ' H' => u r σ' H' Q
theorem pgs_nil : PGs X [] gNil := by
  intro pins s σ H vs us Q I r h
  obtain ⟨e, h⟩ := h
  subst e
  cases r
  exact assignInOrder_nil ⟨σ, H, I, h⟩
theorem pgs_cons {e : Expr} {es : List Expr} {t : TG} {u : TGs} (h1 : PG X e t) (h2 : PGs X es u)
    (hs : (assignEach (e :: es) X.env).map (·.2) = assign e X.env :: (assignEach es X.env).map (·.2) := by rfl) : PGs X (e :: es) (gCons t u) := by
  intro pins s σ H vs us Q I r h
  obtain ⟨v, vr, e1, h⟩ := h
  subst e1
  cases r with
  | cons r rr =>
    rw [hs]
    refine assignInOrder_cons (thn (h1 pins s σ H _ _ _ I r h) fun _ s1 ⟨σ1, H1, I1, q1⟩ => ?_)
    exact h2 pins s1 σ1 H1 _ _ Q I1 rr q1
def gTup (K : PySem.W.Frag) (n : Nat) (t : TGs) : TG := fun v σ H Q => ∃ a xs, v = .ref a ∧ SqT K H a xs ∧ xs.length = n ∧ t xs σ H Q
theorem pg_tup {es : List Expr} {k : Nat} {t : TGs} {n : Nat} (hc : X.calm = true) (h : PGs X es t)
    (hn : (assignEach es X.env).length = n := by rfl) (hst : (assignEach es X.env).findIdx? (·.1) = none := by rfl) : PG X (.Tuple es k pos) (gTup X.K n t) := by
  intro pins s σ H v u Q I r hw
  obtain ⟨a, xs, e1, hq, hl, hw⟩ := hw
  subst e1
  cases r
  obtain ⟨its, rv, ht, hz⟩ := I.tuple hq
  refine assign_Tuple_tuple (I.ok.hd hc) ht (by simp [hn, ← hl, rv.length]) hst fun h' hx => ?_
  have I1 : Inv X pins σ H { s with heap := h' } := I.kept (t' := s.toks) fun b o e => hx b o (Nat.ne_of_lt (Heap.lt_size e)) e
  exact h pins _ σ H xs _ Q I1 (by simpa using rv) hw
def tAsg (te : TE) (g : TG) : TS := fun D σ H => te σ H fun x H1 => g x σ H1 D.nx
theorem ps_set {i : Nat} {x : Str} {e : Expr} {te : TE} {pos' : Pos} (hN : X.N.Nodup) (hi : X.N[i]? = some x) (hx : Loc X.env.scope x) (he : PE X e te) (hs : swapsWith e (some (.Name x pos')) pos.line X.env = pure false := by rfl) (hf : X.fn x = true ∨ X.env.scope.names.lookup x = some .local := by first | exact .inl rfl | exact .inr rfl | assumption) :
    PS X (.Assign [.Name x pos'] e pos) (tAsg te (gName i)) := by
  intro pins s σ H D I h
  refine wpAny_Assign_Name (thn (he pins s σ H _ I h) fun v s1 ⟨y, H1, I1, r1, q1⟩ => ?_) hs
  exact store_ok I1 hN hi hx r1 (fun s2 I2 => ⟨_, H1, I2, q1⟩) hf
end
section
variable {X : Cx} {pos : Pos}
def tWhile (c : TT) (tb : TS) : TS := fun D σ H => ∃ W : Nat → St → Hp → Prop, (∃ m, W m σ H) ∧ ∀ m σ H, W m σ H →
  c σ H fun b H1 => if b = true then ∃ N : St → Hp → Prop, (∀ σ' H', N σ' H' → ∃ m', m' < m ∧ W m' σ' H') ∧ tb { D with nx := N, ct := N, bk := D.nx } σ H1 else D.nx σ H1
theorem ps_while {c : Expr} {body : List Stmt} {tc : TT} {tb : TS} (hp : PassesOwn (model X.prog X.w) X.A X.env X.xe) (hc : PT X c tc) (hb : PSs X body tb) : PS X (.While c body [] pos) (tWhile tc tb) := by
  intro pins s σ H D I h
  obtain ⟨W, ⟨m0, w0⟩, turn⟩ := h
  refine wpAny_While (codeAny_whileLoop (fun n s' => ∃ σ' H', Inv X pins σ' H' s' ∧ W n σ' H') ?_ m0 ⟨σ, H, I, w0⟩)
  rintro n s1 ⟨σ1, H1, I1, w1⟩
  refine wpAny_passesOwn hp (thn (hc pins s1 σ1 H1 _ I1 (turn n σ1 H1 w1)) fun b s2 ⟨H2, I2, q2⟩ => ?_)
  cases b with
  | true =>
    obtain ⟨N, hN, q2⟩ := q2
    rw [if_pos rfl]
    refine wpAny_passesOwn hp (thn (hb pins s2 σ1 H2 _ I2 q2) fun f s3 q3 => ?_)
    cases f with
    | next =>
      obtain ⟨σ3, H3, I3, n3⟩ := q3
      obtain ⟨m', hm, w3⟩ := hN σ3 H3 n3
      exact ⟨m', hm, σ3, H3, I3, w3⟩
    | cont =>
      obtain ⟨σ3, H3, I3, n3⟩ := q3
      obtain ⟨m', hm, w3⟩ := hN σ3 H3 n3
      exact ⟨m', hm, σ3, H3, I3, w3⟩
    | brk => exact q3
    | ret v => exact q3
  | false =>
    rw [if_neg Bool.false_ne_true]
    exact wpAny_execs_nil ⟨σ1, H2, I2, q2⟩
end
/-- at turn i: it yields x (the heap may grow), or it stops -/
structure It where
  go : Nat → Hp → Prop
  yld : Nat → Hp → V → Hp → Prop
  stop : Nat → Hp → Prop
def FpOk (X : Cx) (pins : List (Addr × Obj)) (H : Hp) (b : Addr) : Prop :=
  H b = none ∧ b ≠ X.env.locals ∧ b ∉ X.fs ∧ (b ∈ X.ex ∨ X.s_0.heap.objs.size ≤ b) ∧ (∀ x c, X.env.cells.lookup x = some c → c ≠ b) ∧ ∀ p ∈ X.pn ++ pins, p.1 ≠ b
theorem Inv.fpOk {X : Cx} {pins : List (Addr × Obj)} {σ : St} {H H' : Hp} {s : Shared} {b : Addr} (I : Inv X pins σ H s) (hb : s.heap.objs.size ≤ b) (hn : H' b = none) : FpOk X pins H' b := by
  refine ⟨hn, Nat.ne_of_gt (Nat.lt_of_lt_of_le I.lt hb), I.nofs hb, .inr (Nat.le_trans I.sz hb), fun x c e z => ?_, fun p hp z => ?_⟩
  · obtain ⟨v, q⟩ := I.cell x c e
    exact absurd (Nat.lt_of_lt_of_le q.lt (by rw [z]; exact hb)) (Nat.lt_irrefl _)
  · exact absurd (Nat.lt_of_lt_of_le (Heap.lt_size (I.pin p hp).1) (by rw [z]; exact hb)) (Nat.lt_irrefl _)
structure Turn (P : Program) (w : World) (K : PySem.W.Frag) (tg : Expr) (J : It) (fp : List Addr) (it : Addr) (tn : Nat → Heap → Prop) : Prop where
  mem : it ∈ fp
  obj : ∀ i h, tn i h → ∀ b ∈ fp, ∃ o, h.get? b = some o ∧ ∀ v, o.data ≠ .cell v
  keep : ∀ i h h', tn i h → (∀ b ∈ fp, ∀ o, h.get? b = some o → h'.get? b = some o) → tn i h'
  item : ∀ (X : Cx), X.prog = P → X.w = w → X.K = K → X.calm = true → ∀ (i : Nat) (pins : List (Addr × Obj)) (s : Shared) (σ : St) (H : Hp) (E : Value → Shared → Prop), Inv X pins σ H s → (∀ b ∈ fp, FpOk X pins H b) → tn i s.heap → J.go i H →
    wpAny (model P w) X.A (pyNext (.ref it)) (fun r s1 => ∃ u, r = some u ∧
      wpAny (model P w) X.A (letOwnedTupleGo tg (.ref it) u) (fun _ s2 => ∃ x H', Inv X pins σ H' s2 ∧ RelV x u ∧ J.yld i H x H' ∧ tn (i + 1) s2.heap ∧ ∀ b ∈ fp, H' b = none) E s1) E s
  done : ∀ (X : Cx), X.prog = P → X.w = w → X.K = K → X.calm = true → ∀ (i : Nat) (pins : List (Addr × Obj)) (s : Shared) (σ : St) (H : Hp) (E : Value → Shared → Prop), Inv X pins σ H s → (∀ b ∈ fp, FpOk X pins H b) → tn i s.heap → J.stop i H →
    wpAny (model P w) X.A (pyNext (.ref it)) (fun r s1 => r = none ∧ Inv X pins σ H s1) E s
  self : ∀ (A : Around) (i : Nat) (s : Shared) (Q : Value → Shared → Prop) (E : Value → Shared → Prop), tn i s.heap → Q (.ref it) s → wpAny (model P w) A (pyIter (.ref it)) Q E s
abbrev TI := St → Hp → (It → Hp → Prop) → Prop
def PIE (X : Cx) (pins : List (Addr × Obj)) (σ : St) (tg : Expr) (R : It → Hp → Prop) (itv : Value) (s2 : Shared) : Prop :=
  ∃ (it : Addr) (fp : List Addr) (tn : Nat → Heap → Prop) (J : It) (H' : Hp), itv = .ref it ∧ Inv X pins σ H' s2 ∧ Turn X.prog X.w X.K tg J fp it tn ∧ tn 0 s2.heap ∧ (∀ b ∈ fp, FpOk X pins H' b) ∧ R J H'
def PI (X : Cx) (tg iter : Expr) (wi : TI) : Prop :=
  ∀ (pins : List (Addr × Obj)) (s : Shared) (σ : St) (H : Hp) (R : It → Hp → Prop), Inv X pins σ H s → wi σ H R →
    wpAny (model X.prog X.w) X.A (eval iter X.env) (fun v s1 => wpAny (model X.prog X.w) X.A (pyIter v) (PIE X pins σ tg R) X.xe s1) X.xe s
theorem go_of {M : Model} {A : Around} {E : Value → Shared → Prop} {s : Shared} {tg : Expr} {it : Addr} {u : Value} {o : Obj} {n : String} {vs : Array Value} {Q : Unit → Shared → Prop} (ho : s.heap.get? it = some o) (hc : o.cls = .type n) (hd : o.data = .fields vs)
    (hn : ["enumerate", "zip", "dict_itemiterator", "dict_reverseitemiterator", "odict_iterator", "itertools.zip_longest", "itertools.pairwise"].contains n = false) (hQ : Q () s) : wpAny M A (letOwnedTupleGo tg (.ref it) u) Q E s := by
  unfold letOwnedTupleGo
  cases tg <;> first
    | exact wpAny_pure hQ
    | (cases u <;> first
        | exact wpAny_pure hQ
        | (refine wpAny_bind (wpAny_load ho ?_)
           rw [hc, hd]
           show wpAny M A (if (["enumerate", "zip", "dict_itemiterator", "dict_reverseitemiterator", "odict_iterator", "itertools.zip_longest", "itertools.pairwise"].contains n && vs[0]? == some (rawInt _)) = true then _ else _) Q E s
           rw [if_neg (by intro h; rw [hn, Bool.false_and] at h; cases h)]
           exact wpAny_pure hQ))
def Itl (K : PySem.W.Frag) (a : Addr) : It :=
  ⟨fun i H => ∃ xs x, SqL K H a xs ∧ xs[i]? = some x, fun i H x H' => H' = H ∧ ∀ xs, SqL K H a xs → xs[i]? = some x, fun i H => ∃ xs, SqL K H a xs ∧ xs.length ≤ i⟩
def Itt (K : PySem.W.Frag) (a : Addr) : It :=
  ⟨fun i H => ∃ xs x, SqT K H a xs ∧ xs[i]? = some x, fun i H x H' => H' = H ∧ ∀ xs, SqT K H a xs → xs[i]? = some x, fun i H => ∃ xs, SqT K H a xs ∧ xs.length ≤ i⟩
def Itr (lo : Int) (n : Nat) : It := ⟨fun i _ => i < n, fun i H x H' => H' = H ∧ x = .int (lo + i), fun i _ => n ≤ i⟩
theorem turn_list {P : Program} {w : World} {K : PySem.W.Frag} {tg : Expr} (a it : Addr) : Turn P w K tg (Itl K a) [it] it (fun i h => h.IsListIter it a i) where
  mem := by simp
  obj := fun i h st b hb => by
    have e : b = it := by simpa using hb
    subst e
    obtain ⟨o, e, c, d⟩ := st
    exact ⟨o, e, fun v z => by rw [d] at z; cases z⟩
  keep := fun i h h' st k => st.at fun o e => k it (by simp) o e
  item := by
    intro X hP hw hK hc i pins s σ H E I hf st hg
    subst hP hw hK
    obtain ⟨xs, x, hq, hx⟩ := hg
    obtain ⟨its, rv, p, hz⟩ := I.list hq
    obtain ⟨u, hu, ru⟩ := rv.get hx
    obtain ⟨f0, f1, f2, f3, f4, f5⟩ := hf it (by simp)
    refine wpAny_pyNext_list_item st p.isList (x := u) (by simpa using hu) fun h' st' sb => ?_
    have I1 : Inv X pins σ H { s with heap := h' } := I.turned (t' := s.toks) (fun b o hb e => (sb.2 b hb).trans e) f0 f1 f3 f4 f5
    obtain ⟨o, e, c, d⟩ := id st'
    exact ⟨u, rfl, go_of (s := { s with heap := h' }) e c d (by decide) ⟨x, H, I1, ru, ⟨rfl, fun ys hy => by rw [I.list_inj hy hq]; exact hx⟩, st', fun b hb => (hf b hb).1⟩⟩
  done := by
    intro X hP hw hK hc i pins s σ H E I hf st hg
    subst hP hw hK
    obtain ⟨xs, hq, hx⟩ := hg
    obtain ⟨its, rv, p, hz⟩ := I.list hq
    obtain ⟨f0, f1, f2, f3, f4, f5⟩ := hf it (by simp)
    have hl := rv.length
    exact wpAny_pyNext_list_end (I.ok.hd hc) st p.isList (by simp; omega) fun h' eb => ⟨rfl, I.turned (t' := s.toks) (fun b o hb e => eb b o hb e) f0 f1 f3 f4 f5⟩
  self := fun _ _ _ _ _ st h => wpAny_pyIter_listiter st h
theorem turn_tuple {P : Program} {w : World} {K : PySem.W.Frag} {tg : Expr} (a it : Addr) : Turn P w K tg (Itt K a) [it] it (fun i h => h.IsTupleIter it a i) where
  mem := by simp
  obj := fun i h st b hb => by
    have e : b = it := by simpa using hb
    subst e
    obtain ⟨o, e, c, d⟩ := st
    exact ⟨o, e, fun v z => by rw [d] at z; cases z⟩
  keep := fun i h h' st k => st.at fun o e => k it (by simp) o e
  item := by
    intro X hP hw hK hc i pins s σ H E I hf st hg
    subst hP hw hK
    obtain ⟨xs, x, hq, hx⟩ := hg
    obtain ⟨its, rv, p, hz⟩ := I.tuple hq
    obtain ⟨u, hu, ru⟩ := rv.get hx
    obtain ⟨f0, f1, f2, f3, f4, f5⟩ := hf it (by simp)
    refine wpAny_pyNext_tuple_item st (show s.heap.IsTuple a its.toArray from p) (x := u) (by simpa using hu) fun h' st' sb => ?_
    have I1 : Inv X pins σ H { s with heap := h' } := I.turned (t' := s.toks) (fun b o hb e => (sb.2 b hb).trans e) f0 f1 f3 f4 f5
    obtain ⟨o, e, c, d⟩ := id st'
    exact ⟨u, rfl, go_of (s := { s with heap := h' }) e c d (by decide) ⟨x, H, I1, ru, ⟨rfl, fun ys hy => by rw [I.tuple_inj hy hq]; exact hx⟩, st', fun b hb => (hf b hb).1⟩⟩
  done := by
    intro X hP hw hK hc i pins s σ H E I hf st hg
    subst hP hw hK
    obtain ⟨xs, hq, hx⟩ := hg
    obtain ⟨its, rv, p, hz⟩ := I.tuple hq
    obtain ⟨f0, f1, f2, f3, f4, f5⟩ := hf it (by simp)
    have hl := rv.length
    exact wpAny_pyNext_tuple_end (I.ok.hd hc) st (show s.heap.IsTuple a its.toArray from p) (by simp; omega) fun h' eb => ⟨rfl, I.turned (t' := s.toks) (fun b o hb e => eb b o hb e) f0 f1 f3 f4 f5⟩
  self := fun _ _ _ _ _ st h => wpAny_pyIter_tupleiter st h
theorem turn_range {P : Program} {w : World} {K : PySem.W.Frag} {tg : Expr} (it : Addr) (lo : Int) (n : Nat) : Turn P w K tg (Itr lo n) [it] it (fun i h => IsRangeIter h it (lo + (i : Nat) * 1) ((n : Int) - (i : Nat)) 1) where
  mem := by simp
  obj := fun i h st b hb => by
    have e : b = it := by simpa using hb
    subst e
    exact ⟨_, st, fun v z => by
      have z' : Data.fields _ = Data.cell v := z
      cases z'⟩
  keep := fun i h h' st k => k it (by simp) _ st
  item := by
    intro X hP hw hK hc i pins s σ H E I hf st hg
    subst hP hw hK
    obtain ⟨f0, f1, f2, f3, f4, f5⟩ := hf it (by simp)
    have W := Walks.range (prog := X.prog) (w := X.w) (I.ok.hd hc) it lo 1 n
    refine W.item i s _ _ hg st fun v h' tk hv st' kk => ?_
    obtain ⟨t, rfl⟩ := hv
    have I1 : Inv X pins σ H { s with heap := h', toks := tk } := I.turned (fun b o hb e => kk b o (by simpa using hb) e) f0 f1 f3 f4 f5
    refine ⟨_, rfl, go_of (s := { s with heap := h', toks := tk }) (n := "range_iterator") st' rfl rfl (by decide) ⟨.int (lo + i), H, I1, ⟨t, ?_⟩, ⟨rfl, rfl⟩, st', fun b hb => (hf b hb).1⟩⟩
    rw [Int.mul_one]
  done := by
    intro X hP hw hK hc i pins s σ H E I hf st hg
    subst hP hw hK
    obtain ⟨f0, f1, f2, f3, f4, f5⟩ := hf it (by simp)
    exact wpAny_pyNext_range_end (I.ok.hd hc) st (by have : n ≤ i := hg; omega) fun h' eb => ⟨rfl, I.turned (t' := s.toks) (fun b o hb e => eb b o hb e) f0 f1 f3 f4 f5⟩
  self := fun _ _ _ _ _ st h => wpAny_pyIter_rangeiter st h
end L2
namespace L2
open PySem PySem.Spec PyProof.Rows
section
variable {X : Cx} {tg : Expr}
def iList (K : PySem.W.Frag) (tl : TE) : TI := fun σ H R => tl σ H fun x H1 => ∃ a, x = .ref a ∧ (∃ xs, SqL K H1 a xs) ∧ R (Itl K a) H1
def iTup (K : PySem.W.Frag) (tl : TE) : TI := fun σ H R => tl σ H fun x H1 => ∃ a, x = .ref a ∧ (∃ xs, SqT K H1 a xs) ∧ R (Itt K a) H1
theorem pi_list {l : Expr} {tl : TE} (hl : PE X l tl) : PI X tg l (iList X.K tl) := by
  intro pins s σ H R I h
  refine thn (hl pins s σ H _ I h) fun v s1 ⟨x, H1, I1, r1, q1⟩ => ?_
  obtain ⟨a, e, ⟨xs, hq⟩, q⟩ := q1
  subst e
  cases r1
  obtain ⟨its, rv, p, hz⟩ := I1.list hq
  refine wpAny_pyIter_list p.isList ?_
  refine ⟨s1.heap.objs.size, [s1.heap.objs.size], _, _, H1, rfl, I1.kept (t' := s1.toks) fun b o e => Heap.get?_push_of_some _ e, turn_list a _, ⟨_, Heap.get?_push_size _ rfl, rfl, rfl⟩, fun b hb => ?_, q⟩
  have e : b = s1.heap.objs.size := by simpa using hb
  subst e
  exact I1.fpOk (Nat.le_refl _) (I1.hok.fresh (Nat.le_refl _))
theorem pi_tup {l : Expr} {tl : TE} (hl : PE X l tl) : PI X tg l (iTup X.K tl) := by
  intro pins s σ H R I h
  refine thn (hl pins s σ H _ I h) fun v s1 ⟨x, H1, I1, r1, q1⟩ => ?_
  obtain ⟨a, e, ⟨xs, hq⟩, q⟩ := q1
  subst e
  cases r1
  obtain ⟨its, rv, p, hz⟩ := I1.tuple hq
  refine wpAny_pyIter_tuple (show s1.heap.IsTuple a its.toArray from p) ?_
  refine ⟨s1.heap.objs.size, [s1.heap.objs.size], _, _, H1, rfl, I1.kept (t' := s1.toks) fun b o e => Heap.get?_push_of_some _ e, turn_tuple a _, ⟨_, Heap.get?_push_size _ rfl, rfl, rfl⟩, fun b hb => ?_, q⟩
  have e : b = s1.heap.objs.size := by simpa using hb
  subst e
  exact I1.fpOk (Nat.le_refl _) (I1.hok.fresh (Nat.le_refl _))
theorem range_it {pins : List (Addr × Obj)} {σ : St} {H : Hp} {s : Shared} {R : It → Hp → Prop} {E : Value → Shared → Prop} {lo hi : Int} {t u v : Tok} {tk : Nat} (I : Inv X pins σ H s) (h1 : -(2 ^ 62) ≤ lo) (h2 : lo < 2 ^ 62) (h3 : -(2 ^ 62) ≤ hi) (h4 : hi < 2 ^ 62)
    (q : R (Itr lo (hi - lo).toNat) H) : wpAny (model X.prog X.w) X.A (pyIter (.ref s.heap.objs.size)) (PIE X pins σ tg R) E { s with heap := s.heap.push { cls := .type "range", data := .fields #[.int lo t, .int hi u, .int 1 v] }, toks := tk } := by
  refine wpAny_pyIter_range (IsRange.new ..) (small_one h1 h2 h3 h4) ?_
  have I1 : Inv X pins σ H { s with heap := s.heap.push { cls := .type "range", data := .fields #[.int lo t, .int hi u, .int 1 v] }, toks := tk } := I.kept fun b o e => Heap.get?_push_of_some _ e
  refine ⟨(s.heap.push { cls := .type "range", data := .fields #[.int lo t, .int hi u, .int 1 v] }).objs.size, [(s.heap.push { cls := .type "range", data := .fields #[.int lo t, .int hi u, .int 1 v] }).objs.size], _, _, H, rfl,
    I1.kept (t' := tk) fun b o e => Heap.get?_push_of_some _ e, turn_range _ lo (hi - lo).toNat, ?_, fun b hb => ?_, q⟩
  · have e1 : lo + ((0 : Nat) : Int) * 1 = lo := by simp
    have e2 : (((hi - lo).toNat : Nat) : Int) - ((0 : Nat) : Int) = Builtin.Range.rangeSize lo hi 1 := by rw [rangeSize_one]; split <;> omega
    show IsRangeIter _ _ (lo + ((0 : Nat) : Int) * 1) ((((hi - lo).toNat : Nat) : Int) - ((0 : Nat) : Int)) 1
    rw [e1, e2]
    exact Heap.get?_push_size _ rfl
  · have e : b = (s.heap.push { cls := .type "range", data := .fields #[.int lo t, .int hi u, .int 1 v] }).objs.size := by simpa using hb
    subst e
    exact I1.fpOk (Nat.le_refl _) (I1.hok.fresh (Nat.le_refl _))
def iRng1 (ta : TA) : TI := fun σ H R => ta σ H fun vs H1 => ∃ j : Int, vs = [.int j] ∧ -(2 ^ 62) ≤ j ∧ j < 2 ^ 62 ∧ R (Itr 0 j.toNat) H1
def iRng2 (ta : TA) : TI := fun σ H R => ta σ H fun vs H1 => ∃ i j : Int, vs = [.int i, .int j] ∧ (-(2 ^ 62) ≤ i ∧ i < 2 ^ 62 ∧ -(2 ^ 62) ≤ j ∧ j < 2 ^ 62) ∧ R (Itr i (j - i).toNat) H1
theorem pi_range1 {a : Expr} {ta : TA} {p pos : Pos} (hg : Gl X "range") (hm : X.mg "range" = none) (ha : PA X [a] ta) (hs : starEach [a] X.env = [(false, eval a X.env)] := by rfl) : PI X tg (.Call (.Name "range" p) [a] [] pos) (iRng1 ta) := by
  intro pins s σ H R I h
  refine Call_ (ld_blt I hg hm boot_range (PyProof.Rows.callWith_type1 (thn (ha pos pins s σ H _ I h) fun us s1 ⟨vs, H1, I1, r1, q1⟩ => ?_) hs rfl))
  obtain ⟨j, e, q1, q2, q⟩ := q1
  subst e
  cases r1 with
  | cons r rr =>
    cases rr
    obtain ⟨t, rfl⟩ := r
    exact call_range_1 (range_it I1 (by omega) (by omega) q1 q2 (by simpa using q))
theorem pi_range2 {a b : Expr} {ta : TA} {p pos : Pos} (hg : Gl X "range") (hm : X.mg "range" = none) (ha : PA X [a, b] ta) (hs : starEach [a, b] X.env = [(false, eval a X.env), (false, eval b X.env)] := by rfl) (hs2 : starEach [b] X.env = [(false, eval b X.env)] := by rfl) :
    PI X tg (.Call (.Name "range" p) [a, b] [] pos) (iRng2 ta) := by
  intro pins s σ H R I h
  refine Call_ (ld_blt I hg hm boot_range (PyProof.Rows.callWith_type1 (thn (ha pos pins s σ H _ I h) fun us s1 ⟨vs, H1, I1, r1, q1⟩ => ?_) (by rw [hs, hs2]) (by rw [hs2]; rfl)))
  obtain ⟨i, j, e, ⟨q1, q2, q3, q4⟩, q⟩ := q1
  subst e
  cases r1 with
  | cons r rr =>
    cases rr with
    | cons r' rr =>
      cases rr
      obtain ⟨t, rfl⟩ := r
      obtain ⟨t', rfl⟩ := r'
      exact call_range_2 (range_it I1 q1 q2 q3 q4 q)
def tFor (wi : TI) (g : TG) (tb : TS) : TS := fun D σ H => wi σ H fun J H1 => ∃ W : Nat → Nat → St → Hp → Prop, (∃ m, W 0 m σ H1) ∧ ∀ i m σ H, W i m σ H →
  (J.stop i H ∧ D.nx σ H) ∨ (J.go i H ∧ ∃ N : St → Hp → Prop, (∀ σ' H', N σ' H' → ∃ m', m' < m ∧ W (i + 1) m' σ' H') ∧ ∀ x H', J.yld i H x H' → g x σ H' fun σ2 H2 => tb { D with nx := N, ct := N, bk := D.nx } σ2 H2)
def pinsAt (fp : List Addr) (h : Heap) : List (Addr × Obj) := fp.filterMap fun b => (h.get? b).map fun o => (b, o)
theorem mem_pinsAt {fp : List Addr} {h : Heap} {b : Addr} {o : Obj} (hb : b ∈ fp) (e : h.get? b = some o) : (b, o) ∈ pinsAt fp h := List.mem_filterMap.mpr ⟨b, hb, by rw [e]; rfl⟩
theorem of_pinsAt {fp : List Addr} {h : Heap} {p : Addr × Obj} (hp : p ∈ pinsAt fp h) : p.1 ∈ fp ∧ h.get? p.1 = some p.2 := by
  obtain ⟨b, hb, e⟩ := List.mem_filterMap.mp hp
  cases q : h.get? b with
  | none => rw [q] at e; cases e
  | some o =>
    rw [q] at e
    have e' : (b, o) = p := Option.some.inj e
    subst e'
    exact ⟨hb, q⟩
theorem Inv.pinned {pins : List (Addr × Obj)} {σ : St} {H : Hp} {s : Shared} {fp : List Addr} (I : Inv X pins σ H s) (hf : ∀ b ∈ fp, FpOk X pins H b) (ho : ∀ b ∈ fp, ∃ o, s.heap.get? b = some o ∧ ∀ v, o.data ≠ .cell v) : Inv X (pins ++ pinsAt fp s.heap) σ H s :=
  I.pins_of fun p hp => (List.mem_append.mp hp).elim (fun z => I.pin p (List.mem_append_right _ z)) fun z => by
    obtain ⟨hb, e⟩ := of_pinsAt z
    obtain ⟨f0, f1, f2, _⟩ := hf p.1 hb
    obtain ⟨o, e', d⟩ := ho p.1 hb
    rw [e] at e'; cases e'
    exact ⟨e, f0, f1, f2, d⟩
theorem Inv.unpinned {pins pl : List (Addr × Obj)} {σ : St} {H : Hp} {s : Shared} (I : Inv X (pins ++ pl) σ H s) : Inv X pins σ H s := I.pins_of fun p hp => I.pin p (List.mem_append_right _ (List.mem_append_left _ hp))
theorem ps_for {iter : Expr} {body : List Stmt} {wi : TI} {g : TG} {tb : TS} {pos : Pos} (hp : PassesOwn (model X.prog X.w) X.A X.env X.xe) (hc : X.calm = true) (hi : PI X tg iter wi) (hg : PG X tg g) (hb : PSs X body tb)
    (hs : ∀ x, foldedSetIterable iter X.env x = pure x := by intro _; rfl) : PS X (.For tg iter body [] pos) (tFor wi g tb) := by
  intro pins s σ H D I h
  refine wpAny_For (thn (hi pins s σ H _ I h) fun v s1 h1 => thn h1 fun itv s2 h2 => ?_) hs
  obtain ⟨it, fp, tn, J, H2, e, I2, T, st2, f2, W, ⟨m0, w0⟩, turn⟩ := h2
  subst e
  -- what stays true of the iterator's objects through the loop
  have stat : ∀ {H' : Hp}, (∀ b ∈ fp, H' b = none) → ∀ b ∈ fp, FpOk X pins H' b := fun hn b hb => ⟨hn b hb, (f2 b hb).2⟩
  refine codeAny_forLoop_any (fun n s' => ∃ i σ' H', Inv X pins σ' H' s' ∧ tn i s'.heap ∧ (∀ b ∈ fp, H' b = none) ∧ W i n σ' H') ?_ m0 ⟨0, σ, H2, I2, st2, fun b hb => (f2 b hb).1, w0⟩
  rintro n s3 ⟨i, σ3, H3, I3, st3, fr3, w3⟩
  rcases turn i n σ3 H3 w3 with ⟨stop, qn⟩ | ⟨go, N, hN, step⟩
  · refine wpAny_passesOwn hp (thn (T.done X rfl rfl rfl hc i pins s3 σ3 H3 X.xe I3 (stat fr3) st3 stop) fun r s4 ⟨hr, I4⟩ => ?_)
    subst hr
    exact wpAny_execs_nil ⟨σ3, H3, I4, qn⟩
  · refine wpAny_passesOwn hp (thn (T.item X rfl rfl rfl hc i pins s3 σ3 H3 X.xe I3 (stat fr3) st3 go) fun r s4 ⟨u, hr, h4⟩ => ?_)
    subst hr
    refine wpAny_passesOwn hp (thn h4 fun _ s5 ⟨x, H5, I5, r5, y5, st5, fr5⟩ => ?_)
    have I5' := I5.pinned (stat fr5) (T.obj _ _ st5)
    refine wpAny_passesOwn hp (thn (hg _ s5 σ3 H5 x u _ I5' r5 (step x H5 y5)) fun _ s6 ⟨σ6, H6, I6, q6⟩ => ?_)
    refine wpAny_passesOwn hp (thn (hb _ s6 σ6 H6 _ I6 q6) fun f s7 q7 => ?_)
    have again : ∀ {σ7 : St} {H7 : Hp}, Inv X (pins ++ pinsAt fp s5.heap) σ7 H7 s7 → N σ7 H7 → ∃ m, m < n ∧ ∃ i σ' H', Inv X pins σ' H' s7 ∧ tn i s7.heap ∧ (∀ b ∈ fp, H' b = none) ∧ W i m σ' H' := fun {σ7 H7} I7 n7 => by
      obtain ⟨m', hm, w7⟩ := hN σ7 H7 n7
      refine ⟨m', hm, i + 1, σ7, H7, I7.unpinned, T.keep _ _ _ st5 fun b hb o e => (I7.pin (b, o) (List.mem_append_right _ (List.mem_append_right _ (mem_pinsAt hb e)))).1, fun b hb => ?_, w7⟩
      obtain ⟨o, e, d⟩ := T.obj _ _ st5 b hb
      exact (I7.pin (b, o) (List.mem_append_right _ (List.mem_append_right _ (mem_pinsAt hb e)))).2.1
    cases f with
    | next => obtain ⟨σ7, H7, I7, n7⟩ := q7; exact again I7 n7
    | cont => obtain ⟨σ7, H7, I7, n7⟩ := q7; exact again I7 n7
    | brk => obtain ⟨σ7, H7, I7, q7⟩ := q7; exact ⟨σ7, H7, I7.unpinned, q7⟩
    | ret v => obtain ⟨x7, σ7, H7, I7, r7, q7⟩ := q7; exact ⟨x7, σ7, H7, I7.unpinned, r7, q7⟩
end
theorem for_list {K : PySem.W.Frag} {a : Addr} {xs : List V} {g : TG} {tb : TS} {D : Ends} {σ : St} {H : Hp} (Pv : Nat → St → Hp → Prop) (h0 : Pv 0 σ H) (hl : ∀ i σ H, i ≤ xs.length → Pv i σ H → SqL K H a xs)
    (hs : ∀ i x σ H, xs[i]? = some x → Pv i σ H → g x σ H fun σ2 H2 => tb { D with nx := Pv (i + 1), ct := Pv (i + 1), bk := D.nx } σ2 H2) (hd : ∀ σ H, Pv xs.length σ H → D.nx σ H) :
    ∃ W : Nat → Nat → St → Hp → Prop, (∃ m, W 0 m σ H) ∧ ∀ i m σ H, W i m σ H →
      ((Itl K a).stop i H ∧ D.nx σ H) ∨ ((Itl K a).go i H ∧ ∃ N : St → Hp → Prop, (∀ σ' H', N σ' H' → ∃ m', m' < m ∧ W (i + 1) m' σ' H') ∧ ∀ x H', (Itl K a).yld i H x H' → g x σ H' fun σ2 H2 => tb { D with nx := N, ct := N, bk := D.nx } σ2 H2) := by
  refine ⟨fun i m σ H => m = xs.length - i ∧ i ≤ xs.length ∧ Pv i σ H, ⟨xs.length, by simp, Nat.zero_le _, h0⟩, ?_⟩
  rintro i m σ H ⟨rfl, hi, p⟩
  have q := hl i σ H hi p
  by_cases hlt : i < xs.length
  · refine .inr ⟨⟨xs, xs[i], q, by simp [hlt]⟩, Pv (i + 1), fun σ' H' p' => ⟨xs.length - (i + 1), by omega, rfl, hlt, p'⟩, fun x H' y => ?_⟩
    obtain ⟨e, y⟩ := y
    subst e
    exact hs i x σ _ (y xs q) p
  · have e : i = xs.length := by omega
    subst e
    exact .inl ⟨⟨xs, q, Nat.le_refl _⟩, hd σ H p⟩
theorem for_tup {K : PySem.W.Frag} {a : Addr} {xs : List V} {g : TG} {tb : TS} {D : Ends} {σ : St} {H : Hp} (Pv : Nat → St → Hp → Prop) (h0 : Pv 0 σ H) (hl : ∀ i σ H, i ≤ xs.length → Pv i σ H → SqT K H a xs)
    (hs : ∀ i x σ H, xs[i]? = some x → Pv i σ H → g x σ H fun σ2 H2 => tb { D with nx := Pv (i + 1), ct := Pv (i + 1), bk := D.nx } σ2 H2) (hd : ∀ σ H, Pv xs.length σ H → D.nx σ H) :
    ∃ W : Nat → Nat → St → Hp → Prop, (∃ m, W 0 m σ H) ∧ ∀ i m σ H, W i m σ H →
      ((Itt K a).stop i H ∧ D.nx σ H) ∨ ((Itt K a).go i H ∧ ∃ N : St → Hp → Prop, (∀ σ' H', N σ' H' → ∃ m', m' < m ∧ W (i + 1) m' σ' H') ∧ ∀ x H', (Itt K a).yld i H x H' → g x σ H' fun σ2 H2 => tb { D with nx := N, ct := N, bk := D.nx } σ2 H2) := by
  refine ⟨fun i m σ H => m = xs.length - i ∧ i ≤ xs.length ∧ Pv i σ H, ⟨xs.length, by simp, Nat.zero_le _, h0⟩, ?_⟩
  rintro i m σ H ⟨rfl, hi, p⟩
  have q := hl i σ H hi p
  by_cases hlt : i < xs.length
  · refine .inr ⟨⟨xs, xs[i], q, by simp [hlt]⟩, Pv (i + 1), fun σ' H' p' => ⟨xs.length - (i + 1), by omega, rfl, hlt, p'⟩, fun x H' y => ?_⟩
    obtain ⟨e, y⟩ := y
    subst e
    exact hs i x σ _ (y xs q) p
  · have e : i = xs.length := by omega
    subst e
    exact .inl ⟨⟨xs, q, Nat.le_refl _⟩, hd σ H p⟩
theorem for_range {lo : Int} {n : Nat} {g : TG} {tb : TS} {D : Ends} {σ : St} {H : Hp} (Pv : Nat → St → Hp → Prop) (h0 : Pv 0 σ H)
    (hs : ∀ i σ H, i < n → Pv i σ H → g (.int (lo + i)) σ H fun σ2 H2 => tb { D with nx := Pv (i + 1), ct := Pv (i + 1), bk := D.nx } σ2 H2) (hd : ∀ σ H, Pv n σ H → D.nx σ H) :
    ∃ W : Nat → Nat → St → Hp → Prop, (∃ m, W 0 m σ H) ∧ ∀ i m σ H, W i m σ H →
      ((Itr lo n).stop i H ∧ D.nx σ H) ∨ ((Itr lo n).go i H ∧ ∃ N : St → Hp → Prop, (∀ σ' H', N σ' H' → ∃ m', m' < m ∧ W (i + 1) m' σ' H') ∧ ∀ x H', (Itr lo n).yld i H x H' → g x σ H' fun σ2 H2 => tb { D with nx := N, ct := N, bk := D.nx } σ2 H2) := by
  refine ⟨fun i m σ H => m = n - i ∧ i ≤ n ∧ Pv i σ H, ⟨n, by simp, Nat.zero_le _, h0⟩, ?_⟩
  rintro i m σ H ⟨rfl, hi, p⟩
  by_cases hlt : i < n
  · refine .inr ⟨hlt, Pv (i + 1), fun σ' H' p' => ⟨n - (i + 1), by omega, rfl, hlt, p'⟩, fun x H' y => ?_⟩
    obtain ⟨e, y⟩ := y
    subst e y
    exact hs i σ _ hlt p
  · have e : i = n := by omega
    subst e
    exact .inl ⟨Nat.le_refl _, hd σ H p⟩
end L2
namespace L2
open PySem PySem.Spec PyProof.Rows
abbrev R2 := V → V → Hp → VK → Prop
def OpR (X : Cx) (f : Value → Value → Sem Value) (r : R2) : Prop :=
  ∀ (pins : List (Addr × Obj)) (s : Shared) (σ : St) (H : Hp) (x y : V) (v u : Value) (Q : VK), Inv X pins σ H s → RelV x v → RelV y u → r x y H Q →
    wpAny (model X.prog X.w) X.A (f v u) (EP X pins σ Q) X.xe s
def CallR (X : Cx) (f : Value) (r : List V → Hp → VK → Prop) : Prop :=
  ∀ (pins : List (Addr × Obj)) (s : Shared) (σ : St) (H : Hp) (xs : List V) (us : List Value) (Q : VK), Inv X pins σ H s → Vals xs us → r xs H Q →
    wpAny (model X.prog X.w) X.A (call f us) (EP X pins σ Q) X.xe s
def tOp (r : R2) (ta tb : TE) : TE := fun σ H Q => ta σ H fun x H1 => tb σ H1 fun y H2 => r x y H2 Q
def rI (C : Int → Int → Prop) (g : Int → Int → V) : R2 := fun x y H Q => ∃ i j, x = .int i ∧ y = .int j ∧ C i j ∧ Q (g i j) H
def rI0 (g : Int → Int → V) : R2 := fun x y H Q => ∃ i j, x = .int i ∧ y = .int j ∧ Q (g i j) H
section
variable {X : Cx} {a b c : Expr} {ta tb tc : TE} {pos : Pos}
theorem binT (ha : PE X a ta) (hb : PE X b tb) {pins : List (Addr × Obj)} {s : Shared} {σ : St} {H : Hp} {R : V → V → Hp → Prop} (I : Inv X pins σ H s)
    (h : ta σ H fun x H1 => tb σ H1 fun y H2 => R x y H2) {Q : Value → Shared → Prop} {f : Value → Value → Sem Value}
    (hf : ∀ v u s2 x y H2, Inv X pins σ H2 s2 → RelV x v → RelV y u → R x y H2 → wpAny (model X.prog X.w) X.A (f v u) Q X.xe s2) :
    wpAny (model X.prog X.w) X.A (eval a X.env) (fun v s₁ => wpAny (model X.prog X.w) X.A (eval b X.env) (fun u s₂ => wpAny (model X.prog X.w) X.A (f v u) Q X.xe s₂) X.xe s₁) X.xe s := by
  refine thn (ha pins s σ H _ I h) fun v s1 ⟨x, H1, I1, r1, q1⟩ => ?_
  refine thn (hb pins s1 σ H1 _ I1 q1) fun u s2 ⟨y, H2, I2, r2, q2⟩ => ?_
  exact hf v u s2 x y H2 I2 r1 r2 q2
theorem pe_op {op : Operator} {r : R2} (ho : OpR X (binaryOp op) r) (ha : PE X a ta) (hb : PE X b tb) : PE X (.BinOp a op b pos) (tOp r ta tb) := by
  intro pins s σ H Q I h
  exact wpAny_BinOp (binT ha hb I h fun v u s2 x y H2 I2 rx ry q => ho pins s2 σ H2 x y v u Q I2 rx ry q)
theorem opI {f : Value → Value → Sem Value} {C : Int → Int → Prop} {g : Int → Int → Int}
    (rule : ∀ (i j : Int) (t u : Tok) (s : Shared) (Q : Value → Shared → Prop) (E : Value → Shared → Prop), C i j → Q (.int (g i j) s.toks) { s with toks := s.toks + 1 } → wpAny (model X.prog X.w) X.A (f (.int i t) (.int j u)) Q E s) :
    OpR X f (rI C fun i j => .int (g i j)) := by
  intro pins s σ H x y v u Q I rx ry h
  obtain ⟨i, j, rfl, rfl, hc, q⟩ := h
  obtain ⟨t, rfl⟩ := rx
  obtain ⟨t', rfl⟩ := ry
  exact rule i j t t' s _ _ hc ⟨.int (g i j), H, I.tok _, ⟨_, rfl⟩, q⟩
theorem opI0 {f : Value → Value → Sem Value} {g : Int → Int → Int}
    (rule : ∀ (i j : Int) (t u : Tok) (s : Shared) (Q : Value → Shared → Prop) (E : Value → Shared → Prop), Q (.int (g i j) s.toks) { s with toks := s.toks + 1 } → wpAny (model X.prog X.w) X.A (f (.int i t) (.int j u)) Q E s) :
    OpR X f (rI0 fun i j => .int (g i j)) := by
  intro pins s σ H x y v u Q I rx ry h
  obtain ⟨i, j, rfl, rfl, q⟩ := h
  obtain ⟨t, rfl⟩ := rx
  obtain ⟨t', rfl⟩ := ry
  exact rule i j t t' s _ _ ⟨.int (g i j), H, I.tok _, ⟨_, rfl⟩, q⟩
theorem opB0 {f : Value → Value → Sem Value} {g : Int → Int → Bool}
    (rule : ∀ (i j : Int) (t u : Tok) (s : Shared) (Q : Value → Shared → Prop) (E : Value → Shared → Prop), Q (.bool (g i j)) s → wpAny (model X.prog X.w) X.A (f (.int i t) (.int j u)) Q E s) :
    OpR X f (rI0 fun i j => .bl (g i j)) := by
  intro pins s σ H x y v u Q I rx ry h
  obtain ⟨i, j, rfl, rfl, q⟩ := h
  obtain ⟨t, rfl⟩ := rx
  obtain ⟨t', rfl⟩ := ry
  exact rule i j t t' s _ _ ⟨.bl (g i j), H, I, rfl, q⟩
def CMul (i j : Int) : Prop := (-(2 ^ 64) < i ∧ i < 2 ^ 64) ∨ (-(2 ^ 64) < j ∧ j < 2 ^ 64)
theorem CMul.ok {i j : Int} (h : CMul i j) : IntMulOk i j := by
  rcases h with ⟨h1, h2⟩ | ⟨h1, h2⟩
  · exact .of_left (intBits_le_64 h1 h2)
  · exact .of_right (intBits_le_64 h1 h2)
theorem op_add : OpR X (binaryOp .Add) (rI0 fun i j => .int (i + j)) := opI0 fun _ _ _ _ _ _ _ q => add_int q
theorem op_sub : OpR X (binaryOp .Sub) (rI0 fun i j => .int (i - j)) := opI0 fun _ _ _ _ _ _ _ q => sub_int q
theorem op_mod : OpR X (binaryOp .Mod) (rI (fun _ j => 0 < j) fun i j => .int (i % j)) := opI fun i j _ _ _ _ _ hc q => by
  have h1 : (0 : Int) < j := hc
  exact mod_int' (by omega) (by rw [Int.fmod_eq_emod_of_nonneg i (by omega)]; exact q)
end
def scal : V → V → Bool
  | .non, .non => true | .non, .int _ => true | .int _, .non => true | .non, .bl _ => true | .bl _, .non => true | .non, .str _ => true | .str _, .non => true
  | .int _, .int _ => true | .bl _, .bl _ => true | .str _, .str _ => true | .byt _, .byt _ => true
  | .int _, .str _ => true | .str _, .int _ => true | .bl _, .str _ => true | .str _, .bl _ => true
  | _, _ => false
def rEq : R2 := fun x y H Q => scal x y = true ∧ Q (.bl (decide (x = y))) H
def rNe : R2 := fun x y H Q => scal x y = true ∧ Q (.bl (!decide (x = y))) H
theorem dec_int {i j : Int} : decide (V.int i = V.int j) = (i == j) := by
  rw [Bool.eq_iff_iff]
  simp
theorem dec_bl {i j : Bool} : decide (V.bl i = V.bl j) = (i == j) := by
  rw [Bool.eq_iff_iff]
  simp
theorem dec_str {i j : Str} : decide (V.str i = V.str j) = (i == j) := by
  rw [Bool.eq_iff_iff]
  simp
theorem dec_byt {i j : Array UInt8} : decide (V.byt i = V.byt j) = (i.toList == j.toList) := by
  rw [Bool.eq_iff_iff]
  cases i
  cases j
  simp
section
variable {X : Cx} {a b c : Expr} {ta tb tc : TE} {pos : Pos}
theorem fin_bl {pins : List (Addr × Obj)} {σ : St} {H : Hp} {s : Shared} {Q : VK} {k k' : Bool} (I : Inv X pins σ H s) (q : Q (.bl k) H) (e : k = k') : EP X pins σ Q (.bool k') s := by
  subst e
  exact ⟨.bl k, H, I, rfl, q⟩
theorem op_eq : OpR X (compareOp .Eq) rEq := by
  intro pins s σ H x y v u Q I rx ry h
  obtain ⟨hs, q⟩ := h
  cases x with
  | non =>
    cases rx
    cases y with
    | non => cases ry; exact PySem.EqNone.eq_none_none (fin_bl I q (by simp))
    | bl j => cases ry; exact PySem.EqNone.eq_none_bool (fin_bl I q (by simp))
    | int j => obtain ⟨t', rfl⟩ := ry; exact PySem.EqNone.eq_none_int (fin_bl I q (by simp))
    | str j => obtain ⟨t', rfl⟩ := ry; exact PySem.EqNone.eq_none_str (fin_bl I q (by simp))
    | _ => exact absurd (show false = true from hs) Bool.false_ne_true
  | bl i =>
    cases rx
    cases y with
    | non => cases ry; exact PySem.EqNone.eq_bool_none (fin_bl I q (by simp))
    | bl j => cases ry; exact eq_bool (fin_bl I q dec_bl)
    | str j => obtain ⟨t', rfl⟩ := ry; exact PySem.EqMixed.eq_bool_str (fin_bl I q (by simp))
    | _ => exact absurd (show false = true from hs) Bool.false_ne_true
  | int i =>
    obtain ⟨t, rfl⟩ := rx
    cases y with
    | non => cases ry; exact PySem.EqNone.eq_int_none (fin_bl I q (by simp))
    | int j => obtain ⟨t', rfl⟩ := ry; exact eq_int (fin_bl I q dec_int)
    | str j => obtain ⟨t', rfl⟩ := ry; exact PySem.EqMixed.eq_int_str (fin_bl I q (by simp))
    | _ => exact absurd (show false = true from hs) Bool.false_ne_true
  | str i =>
    obtain ⟨t, rfl⟩ := rx
    cases y with
    | non => cases ry; exact PySem.EqNone.eq_str_none (fin_bl I q (by simp))
    | bl j => cases ry; exact PySem.EqMixed.eq_str_bool (fin_bl I q (by simp))
    | int j => obtain ⟨t', rfl⟩ := ry; exact PySem.EqMixed.eq_str_int (fin_bl I q (by simp))
    | str j => obtain ⟨t', rfl⟩ := ry; exact eq_str (fin_bl I q dec_str)
    | _ => exact absurd (show false = true from hs) Bool.false_ne_true
  | byt i =>
    obtain ⟨t, rfl⟩ := rx
    cases y with
    | byt j => obtain ⟨t', rfl⟩ := ry; exact PySem.W.eq_bytes (fin_bl I q dec_byt)
    | _ => exact absurd (show false = true from hs) Bool.false_ne_true
  | _ => cases y <;> exact absurd (show false = true from hs) Bool.false_ne_true
theorem op_ne : OpR X (compareOp .NotEq) rNe := by
  intro pins s σ H x y v u Q I rx ry h
  obtain ⟨hs, q⟩ := h
  cases x with
  | non =>
    cases rx
    cases y with
    | non => cases ry; exact PySem.EqNone.ne_none_none (fin_bl I q (by simp))
    | bl j => cases ry; exact PySem.EqNone.ne_none_bool (fin_bl I q (by simp))
    | int j => obtain ⟨t', rfl⟩ := ry; exact PySem.EqNone.ne_none_int (fin_bl I q (by simp))
    | str j => obtain ⟨t', rfl⟩ := ry; exact PySem.EqNone.ne_none_str (fin_bl I q (by simp))
    | _ => exact absurd (show false = true from hs) Bool.false_ne_true
  | bl i =>
    cases rx
    cases y with
    | non => cases ry; exact PySem.EqNone.ne_bool_none (fin_bl I q (by simp))
    | bl j => cases ry; exact ne_bool (fin_bl I q (congrArg not dec_bl))
    | str j => obtain ⟨t', rfl⟩ := ry; exact PySem.EqMixed.ne_bool_str (fin_bl I q (by simp))
    | _ => exact absurd (show false = true from hs) Bool.false_ne_true
  | int i =>
    obtain ⟨t, rfl⟩ := rx
    cases y with
    | non => cases ry; exact PySem.EqNone.ne_int_none (fin_bl I q (by simp))
    | int j => obtain ⟨t', rfl⟩ := ry; exact ne_int (fin_bl I q (congrArg not dec_int))
    | str j => obtain ⟨t', rfl⟩ := ry; exact PySem.EqMixed.ne_int_str (fin_bl I q (by simp))
    | _ => exact absurd (show false = true from hs) Bool.false_ne_true
  | str i =>
    obtain ⟨t, rfl⟩ := rx
    cases y with
    | non => cases ry; exact PySem.EqNone.ne_str_none (fin_bl I q (by simp))
    | bl j => cases ry; exact PySem.EqMixed.ne_str_bool (fin_bl I q (by simp))
    | int j => obtain ⟨t', rfl⟩ := ry; exact PySem.EqMixed.ne_str_int (fin_bl I q (by simp))
    | str j => obtain ⟨t', rfl⟩ := ry; exact ne_str (fin_bl I q (congrArg not dec_str))
    | _ => exact absurd (show false = true from hs) Bool.false_ne_true
  | byt i =>
    obtain ⟨t, rfl⟩ := rx
    cases y with
    | byt j => obtain ⟨t', rfl⟩ := ry; exact PySem.W.ne_bytes (fin_bl I q (congrArg not dec_byt))
    | _ => exact absurd (show false = true from hs) Bool.false_ne_true
  | _ => cases y <;> exact absurd (show false = true from hs) Bool.false_ne_true
theorem op_lt : OpR X (compareOp .Lt) (rI0 fun i j => .bl (decide (i < j))) := opB0 fun _ _ _ _ _ _ _ q => lt_int q
theorem op_le : OpR X (compareOp .LtE) (rI0 fun i j => .bl (decide (i ≤ j))) := opB0 fun _ _ _ _ _ _ _ q => le_int q
theorem op_gt : OpR X (compareOp .Gt) (rI0 fun i j => .bl (decide (j < i))) := opB0 fun _ _ _ _ _ _ _ q => gt_int q
theorem op_notN : OpR X (compareOp .IsNot) (fun x y H Q => y = .non ∧ Q (.bl (!decide (x = .non))) H) := by
  intro pins s σ H x y v u Q I rx ry h
  obtain ⟨rfl, q⟩ := h
  cases ry
  refine isnot_none_gen (fin_bl I q ?_)
  cases x <;> first
    | (cases rx; rfl)
    | (obtain ⟨t, rfl⟩ := rx; rfl)
theorem OpR.or {f : Value → Value → Sem Value} {r r' : R2} (h : OpR X f r) (h' : OpR X f r') : OpR X f (fun x y H Q => r x y H Q ∨ r' x y H Q) := by
  intro pins s σ H x y v u Q I rx ry q
  rcases q with q | q
  · exact h pins s σ H x y v u Q I rx ry q
  · exact h' pins s σ H x y v u Q I rx ry q
theorem nomark (b : Expr) {op : CmpOp} (h : op ≠ .In := by decide) (h2 : op ≠ .NotIn := by decide) : behindInMarks op b = false := by
  have e1 : (op == CmpOp.In) = false := by cases op <;> first | rfl | exact absurd rfl h
  have e2 : (op == CmpOp.NotIn) = false := by cases op <;> first | rfl | exact absurd rfl h2
  cases b <;> simp [behindInMarks, e1, e2]
theorem pe_cmpR {op : CmpOp} {r : R2} (ho : OpR X (compareOp op) r) (ha : PE X a ta) (hb : PE X b tb) (hm : behindInMarks op b = false) : PE X (.Compare a [op] [b] pos) (tOp r ta tb) := by
  intro pins s σ H Q I h
  exact wpAny_Compare1 (binT ha hb I h fun v u s2 x y H2 I2 rx ry q => ho pins s2 σ H2 x y v u Q I2 rx ry q) hm
def tTest (t : TE) : TT := fun σ H Q => t σ H fun x H' => ∃ k, x = .bl k ∧ Q k H'
theorem pt_cmpR {op : CmpOp} {r : R2} (ho : OpR X (compareOp op) r) (ha : PE X a ta) (hb : PE X b tb) (hm : behindInMarks op b = false) : PT X (.Compare a [op] [b] pos) (tTest (tOp r ta tb)) := by
  intro pins s σ H Q I h
  refine wpAny_isTrue_Compare1 (thn (ha pins s σ H _ I h) fun v s1 ⟨x, H1, I1, r1, q1⟩ => thn (hb pins s1 σ H1 _ I1 q1) fun u s2 ⟨y, H2, I2, r2, q2⟩ =>
    thn (ho pins s2 σ H2 x y v u _ I2 r1 r2 q2) fun c s3 ⟨z, H3, I3, r3, k, e, q3⟩ => ?_) hm
  subst e
  cases r3
  exact wpAny_truthy_bool ⟨H3, I3, q3⟩
def tChain (r r' : R2) (ta tb tc : TE) : TE := fun σ H Q => ta σ H fun x H1 => tb σ H1 fun y H2 => r x y H2 fun z H3 => ∃ k, z = .bl k ∧
  (if k = true then tc σ H3 fun w' H4 => r' y w' H4 Q else Q (.bl false) H3)
theorem pe_chain {op op' : CmpOp} {r r' : R2} (ho : OpR X (compareOp op) r) (ho' : OpR X (compareOp op') r') (ha : PE X a ta) (hb : PE X b tb) (hc : PE X c tc)
    (hm : lastMarks [op, op'] [b, c] = false := by with_unfolding_all rfl) : PE X (.Compare a [op, op'] [b, c] pos) (tChain r r' ta tb tc) := by
  intro pins s σ H Q I h
  refine Compare_chain (thn (ha pins s σ H _ I h) fun v s1 ⟨x, H1, I1, r1, q1⟩ => chain_link (thn (hb pins s1 σ H1 _ I1 q1) fun u s2 ⟨y, H2, I2, r2, q2⟩ =>
    thn (ho pins s2 σ H2 x y v u _ I2 r1 r2 q2) fun d s3 ⟨z, H3, I3, r3, k, e, q3⟩ => ?_)) hm
  subst e
  cases r3
  refine wpAny_truthy_bool ?_
  cases k with
  | false => exact ite_ff ⟨.bl false, H3, I3, rfl, q3⟩
  | true => exact ite_tt (chain_last (thn (hc pins s3 σ H3 _ I3 q3) fun w' s4 ⟨z', H4, I4, r4, q4⟩ => ho' pins s4 σ H4 y z' u w' Q I4 r2 r4 q4))
theorem line63 : (sizeLine : Nat) < 2 ^ 63 := by rw [sizeLine_eq]; decide
theorem vals1 {x : V} {us : List Value} (r : Vals [x] us) : ∃ u, us = [u] ∧ RelV x u := by
  cases r with
  | cons r1 r2 => cases r2; exact ⟨_, rfl, r1⟩
theorem vals2 {x y : V} {us : List Value} (r : Vals [x, y] us) : ∃ u w', us = [u, w'] ∧ RelV x u ∧ RelV y w' := by
  cases r with
  | cons r1 r2 =>
    cases r2 with
    | cons r3 r4 => cases r4; exact ⟨_, _, rfl, r1, r3⟩
theorem call_abs : CallR X (.builtin "abs") (fun xs H Q => ∃ i, xs = [.int i] ∧ Q (.int (if i < 0 then -i else i)) H) := by
  intro pins s σ H xs us Q I r h
  obtain ⟨i, rfl, q⟩ := h
  obtain ⟨u, rfl, t, rfl⟩ := vals1 r
  exact call_abs_int fun u tk => ⟨.int (if i < 0 then -i else i), H, I.tok _, ⟨_, rfl⟩, q⟩
theorem call_max2 (hc : X.calm = true) : CallR X (.builtin "max") (fun xs H Q => ∃ i j, xs = [.int i, .int j] ∧ Q (.int (if j > i then j else i)) H) := by
  intro pins s σ H xs us Q I r h
  obtain ⟨i, j, rfl, q⟩ := h
  obtain ⟨u, w', rfl, ⟨t, rfl⟩, ⟨t', rfl⟩⟩ := vals2 r
  refine max_two_ints (I.ok.hd hc) fun h' tk k => ⟨_, H, I.kept k, ?_, q⟩
  by_cases hj : j > i
  · rw [if_pos hj, if_pos hj]; exact ⟨_, rfl⟩
  · rw [if_neg hj, if_neg hj]; exact ⟨_, rfl⟩
theorem call_min2 (hc : X.calm = true) : CallR X (.builtin "min") (fun xs H Q => ∃ i j, xs = [.int i, .int j] ∧ Q (.int (if j < i then j else i)) H) := by
  intro pins s σ H xs us Q I r h
  obtain ⟨i, j, rfl, q⟩ := h
  obtain ⟨u, w', rfl, ⟨t, rfl⟩, ⟨t', rfl⟩⟩ := vals2 r
  refine min_two_ints (I.ok.hd hc) fun h' tk k => ⟨_, H, I.kept k, ?_, q⟩
  by_cases hj : j < i
  · rw [if_pos hj, if_pos hj]; exact ⟨_, rfl⟩
  · rw [if_neg hj, if_neg hj]; exact ⟨_, rfl⟩
end
end L2
namespace L2
open PySem PySem.Spec PyProof.Rows
structure ObjM (h : Heap) (x dx C : Addr) (mA : Str → Option Value) : Prop where
  obj : h.get? x = some (PySem.W.instObj C dx)
  ns : h.Ns1 dx mA
  ne : dx ≠ x
theorem lookIn_ns {h : Heap} {dx : Addr} {mA : Str → Option Value} (n : h.Ns1 dx mA) : ∃ od, h.get? dx = some od ∧ ∀ name, PySem.W.lookIn name od = some (mA name) := by
  obtain ⟨o, es, ep, ho, hd, hk, _, hm⟩ := n
  refine ⟨o, ho, fun name => ?_⟩
  have e := hm name
  unfold nsFind findBy at e
  rw [← Array.find?_toList] at e
  unfold PySem.W.lookIn
  rw [hd]
  dsimp only
  split
  · rename_i y q
    rw [q] at e
    exact congrArg some e
  · rename_i q
    rw [q] at e
    have a : es.toList.any (·.refKey) = false := by
      rw [List.any_eq_false]
      intro y hy
      obtain ⟨z, t, hkey⟩ := hk y (Array.mem_toList_iff.mp hy)
      simp [DictEntry.refKey, hkey]
    have a' : ¬ es.toList.any (·.refKey) = true := by rw [a]; exact Bool.false_ne_true
    rw [if_neg a']
    exact congrArg some e
theorem ObjM.look {h : Heap} {x dx C : Addr} {mA : Str → Option Value} (I : ObjM h x dx C mA) : ∃ od, PySem.W.InstAt h x (PySem.W.instObj C dx) C (some od) ∧ ∀ name, PySem.W.lookIn name od = some (mA name) :=
  let ⟨od, ho, hl⟩ := lookIn_ns I.ns
  ⟨od, ⟨I.obj, rfl, rfl, ho⟩, hl⟩
section
variable {prog : Program} {w : World} {A : Around} {E : Value → Shared → Prop} {s : Shared} {K : PySem.W.Frag} {x dx C f : Addr} {mA : Str → Option Value} {name : Str} {v : Value}
end
section
variable {P : Program} {w : World} {H H' : Hp} {h h' : Heap} {a C dx : Addr} {fs fs' : List (Str × V)}
end
structure Cls (K : PySem.W.Frag) (C : Addr) : Prop where
  pg : PySem.W.plainGet K C Str.empty = true
  hd : PySem.W.hasDictIn K C = true
  po : PySem.W.plainOver K C = true
  sa : PySem.W.findIn K (.ref C) "__setattr__" = some (some (.builtin "object.__setattr__"))
theorem Cls.get {K : PySem.W.Frag} {C : Addr} (c : Cls K C) (f : Str) : PySem.W.plainGet K C f = true := c.pg
/-- a constant of the class -/
structure Con (K : PySem.W.Frag) (C : Addr) (f : Str) (v : V) (u : Value) : Prop where
  at_ : PySem.W.findIn K (.ref C) f = some (some u)
  rel : RelV v u
  get : PySem.W.specialIn K u "__get__" = some none
  cp : PySem.W.copiedNames.contains f = false
/-- a method: a plain def of the class or of one above it -/
structure Meth (K : PySem.W.Frag) (C : Addr) (m : Str) (f : Addr) : Prop where
  at_ : PySem.W.findIn K (.ref C) m = some (some (.ref f))
  fn : PySem.W.isFn K (.ref f) = true
  kp : PySem.W.keepIn K (.ref f) = true
section
variable {X : Cx} {pins : List (Addr × Obj)} {σ : St} {H : Hp} {s : Shared} {a C dx : Addr} {fs : List (Str × V)} {f : Str} {v : V} {A : Around} {E : Value → Shared → Prop}
theorem Inv.made (I : Inv X pins σ H s) : Inv X pins σ (upd (upd H s.heap.objs.size (.own (s.heap.objs.size + 1))) (s.heap.objs.size + 1) (.ins C s.heap.objs.size []))
    { s with heap := (s.heap.push PySem.W.emptyDict).push (PySem.W.instObj C s.heap.objs.size) } := by
  have e1 : (s.heap.push PySem.W.emptyDict).get? s.heap.objs.size = some PySem.W.emptyDict := Heap.get?_push_size s.heap rfl
  have e2 : ((s.heap.push PySem.W.emptyDict).push (PySem.W.instObj C s.heap.objs.size)).get? (s.heap.objs.size + 1) = some (PySem.W.instObj C s.heap.objs.size) := by
    have := Heap.get?_push_size (s.heap.push PySem.W.emptyDict) (o := PySem.W.instObj C s.heap.objs.size) rfl
    rwa [Heap.size_push] at this
  have e3 : (s.heap.push PySem.W.emptyDict).Ns s.heap.objs.size (fun _ => none) := ⟨PySem.W.emptyDict, #[], _, e1, rfl, (fun e he => absurd he (by simp)), fun _ => rfl⟩
  have I1 := I.laid (a := s.heap.objs.size) (o := .own (s.heap.objs.size + 1)) (h' := s.heap.push PySem.W.emptyDict) (t' := s.toks) (fun b u q => Heap.get?_push_of_some _ q) (Nat.le_refl _) ⟨_, e1⟩
  refine I1.laid (a := s.heap.objs.size + 1) (o := .ins C s.heap.objs.size []) (t' := s.toks) (fun b u q => Heap.get?_push_of_some _ q) (Nat.le_of_eq (Heap.size_push _ _)) ?_
  have ne : s.heap.objs.size ≠ s.heap.objs.size + 1 := Nat.ne_of_lt (Nat.lt_succ_self _)
  refine ⟨by rw [upd_ne ne, upd_same], Nat.zero_le _, ne, e2, fun _ => none, (Heap.Ns1.of_empty e3).at fun o q => Heap.get?_push_of_some _ q, fun _ => True.intro, fun y hy => absurd rfl hy⟩
end
section
variable {X : Cx} {o e value : Expr} {f : Str} {pos pos' tpos : Pos} {ta tv : TE}
end
section
variable {X : Cx} {pins : List (Addr × Obj)} {σ : St} {H : Hp} {s : Shared} {A : Around} {E : Value → Shared → Prop} {Q : Value → Shared → Prop} {c : Value} {b : Bool}
/-- the type of a value, as the fragment's deciders take it; for an instance its class -/
inductive TyOf (K : PySem.W.Frag) (H : Hp) : V → Value → Prop where
  | non : TyOf K H .non (.type "NoneType")
  | bl (x : Bool) : TyOf K H (.bl x) (.type "bool")
  | int (i : Int) : TyOf K H (.int i) (.type "int")
  | str (x : Str) : TyOf K H (.str x) (.type "str")
  | flt (x : UInt64) : TyOf K H (.flt x) (.type "float")
  | lst {a : Addr} {xs : List V} (e : H a = some (.lst xs)) : TyOf K H (.ref a) (.type "list")
  | frz {a : Addr} {o : Obj} {xs : List V} (e : H a = some (.frz o (.lst xs))) : TyOf K H (.ref a) (.type "list")
  | tup {a : Addr} {xs : List V} (e : H a = some (.tup xs)) : TyOf K H (.ref a) (.type "tuple")
  | dK {a : Addr} {kvs : List (Key × V)} (e : H a = some (.dK kvs)) : TyOf K H (.ref a) (.type "dict")
  | dT {a : Addr} {kvs : List (List Key × V)} (e : H a = some (.dT kvs)) : TyOf K H (.ref a) (.type "dict")
  | ins {a C dx : Addr} {fs : List (Str × V)} (e : H a = some (.ins C dx fs)) (cl : Cls K C) (ha : PySem.W.findIn K (.ref C) "__class__" = some (some (.builtin "object.__class__")))
      (hn : PySem.W.specialIn K (.builtin "object.__class__") "__get__" = some (some (.builtin "getset_descriptor.__get__"))) (htk : PySem.W.takesIn K (.builtin "object.__class__") = some true)
      (hm : PySem.W.mroIn K C (.type "object") = some true) : TyOf K H (.ref a) (.ref C)
end
end L2
namespace L2
open PySem PySem.Spec PyProof.Rows
structure Room (k : Nat) (A : Around) : Prop where
  hd : A.handled = none
  dp : A.depth + 3 * k + 5 < recursionLimit
  un : A.units + 16 * k + 200 < cLine
theorem Room.mono {j k : Nat} {A : Around} (r : Room k A) (h : j ≤ k) : Room j A := ⟨r.hd, by have := r.dp; omega, by have := r.un; omega⟩
theorem Room.deeper {k : Nat} {A : Around} (r : Room (k + 1) A) (env : Env) : Room k (A.deeper env) :=
  ⟨r.hd, by have := r.dp; show A.depth + 1 + 3 * k + 5 < _; omega, by have := r.un; show A.units + 3 + 16 * k + 200 < _; omega⟩
theorem Room.in1 {k : Nat} {A : Around} (r : Room (k + 1) A) : Room k A.in1 :=
  ⟨r.hd, by have := r.dp; show A.depth + 3 * k + 5 < _; omega, by have := r.un; show A.units + 1 + 16 * k + 200 < _; omega⟩
theorem Room.depth {k : Nat} {A : Around} (r : Room k A) : A.depth < recursionLimit := by have := r.dp; omega
theorem Room.units {k : Nat} {A : Around} (r : Room k A) : A.units + 64 < cLine := by have := r.un; omega
def tNil : TA := fun _ H Q => Q [] H
def tCons (ta : TE) (tr : TA) : TA := fun σ H Q => ta σ H fun x H1 => tr σ H1 fun xs H2 => Q (x :: xs) H2
section
variable {X : Cx} {e : Expr} {es : List Expr} {te : TE} {t : TA} {pos : Pos}
theorem pa_nil : PA X [] tNil := fun _ _ _ _ H Q I h => Calls.spliced_nil ⟨[], H, I, .nil, h⟩
theorem pa_cons (ha : PE X e te) (hr : PA X es t) (hs : starEach (e :: es) X.env = (false, eval e X.env) :: starEach es X.env := by rfl) : PA X (e :: es) (tCons te t) := by
  intro pos pins s σ H Q I h
  rw [hs]
  show wpAny _ _ (spliced ((false, eval e X.env) :: backTo pos (starEach es X.env))) _ _ s
  refine Calls.spliced_cons (thn (ha pins s σ H _ I h) fun u s1 ⟨x, H1, I1, r1, q1⟩ => ?_)
  exact thn (hr pos pins s1 σ H1 _ I1 q1) fun us s2 ⟨xs, H2, I2, r2, q2⟩ => ⟨x :: xs, H2, I2, .cons r1 r2, q2⟩
def tTup (t : TA) : TE := fun σ H Q => t σ H fun xs H1 => xs.length ≤ sizeLine ∧ ∀ p, H1 p = none → Q (.ref p) (upd H1 p (.tup xs))
def tLst (t : TA) : TE := fun σ H Q => t σ H fun xs H1 => xs.length ≤ sizeLine ∧ ∀ p, H1 p = none → Q (.ref p) (upd H1 p (.lst xs))
theorem pe_tup {x1} (h : PA X es t) : PE X (.Tuple es x1 pos) (tTup t) := by
  intro pins s σ H Q I hq
  refine wpAny_Tuple_spliced (thn (h pos pins s σ H _ I hq) fun us s1 ⟨xs, H1, I1, r, z, q⟩ => ⟨by rw [← r.length]; exact z, ?_⟩)
  have hf : H1 s1.heap.objs.size = none := I1.hok.fresh (Nat.le_refl _)
  refine ⟨.ref s1.heap.objs.size, upd H1 s1.heap.objs.size (.tup xs), I1.laid (t' := s1.toks) (fun b u e => Heap.get?_push_of_some _ e) (Nat.le_refl _) ?_, rfl, q _ hf⟩
  exact ⟨z, us, r, ⟨_, Heap.get?_push_size _ rfl, rfl, _, rfl⟩⟩
theorem pe_lst (h : PA X es t) : PE X (.List es pos) (tLst t) := by
  intro pins s σ H Q I hq
  refine wpAny_List_spliced (thn (h pos pins s σ H _ I hq) fun us s1 ⟨xs, H1, I1, r, z, q⟩ => ⟨by rw [← r.length]; exact z, ?_⟩)
  have hf : H1 s1.heap.objs.size = none := I1.hok.fresh (Nat.le_refl _)
  refine ⟨.ref s1.heap.objs.size, upd H1 s1.heap.objs.size (.lst xs), I1.laid (t' := s1.toks) (fun b u e => Heap.get?_push_of_some _ e) (Nat.le_refl _) ?_, rfl, q _ hf⟩
  exact ⟨z, us, 0, r, Heap.get?_push_size _ rfl⟩
end
abbrev Sp := List V → Hp → VK → XK → Prop
abbrev CXT := List Env → Hp → Shared → XK → Value → Shared → Prop
/-- the state at a call -/
structure Env0 (P : Program) (w : World) (K : PySem.W.Frag) (mg : Str → Option Value) (base : Heap) (A : Around) (outer : List Env) (s : Shared) (H : Hp) : Prop where
  frames : A.frames = some outer
  mod : Mod K mg base
  bs : ∀ b o, base.get? b = some o → s.heap.get? b = some o ∧ H b = none
  bsz : base.objs.size ≤ s.heap.objs.size
  funs : s.heap.FunFrames base outer
  frf : ∀ b ∈ frs outer, H b = none
  hok : HOk P w H s.heap
  bare : AllBare s.gens
def CE (outer : List Env) (P : Program) (w : World) (H : Hp) (s : Shared) (Q : VK) (u : Value) (s' : Shared) : Prop :=
  ∃ v H', s'.os = s.os ∧ AllBare s'.gens ∧ Un (frs outer) [] H H' s.heap s'.heap ∧ HOk P w H' s'.heap ∧ RelV v u ∧ Q v H'
def CR (CX : CXT) (outer : List Env) (P : Program) (w : World) (H : Hp) (s : Shared) (Q : VK) (E : XK) (r : Result) (s' : Shared) : Prop :=
  match r with
  | .ok (.ret u) => CE outer P w H s Q u s'
  | .ok _ => False
  | .error e => CX outer H s E e s'
structure FnOk (P : Program) (w : World) (K : PySem.W.Frag) (mg : Str → Option Value) (base : Heap) (CX : CXT) (k : Nat) (f : Addr) (fd : FuncData) (ps : List Str) (sp : Sp) : Prop where
  len : ∀ vs H Q E, sp vs H Q E → vs.length = ps.length
  run : ∀ (A : Around) (outer : List Env) (s : Shared) (H : Hp) (args : Args) (us : List Value) (vs : List V) (Q : VK) (E : XK), Room k A → Env0 P w K mg base A outer s H → BindsTo s fd args (ps.zip us) → Vals vs us → sp vs H Q E →
    codeAny (model P w) A (.call (.ref f) args) (CR CX outer P w H s Q E) s
theorem FnOk.mono {P : Program} {w : World} {K : PySem.W.Frag} {mg : Str → Option Value} {base : Heap} {CX : CXT} {j k : Nat} {f : Addr} {fd : FuncData} {ps : List Str} {sp : Sp} (F : FnOk P w K mg base CX j f fd ps sp) (h : j ≤ k) :
    FnOk P w K mg base CX k f fd ps sp := ⟨F.len, fun A outer s H args us vs Q E hr => F.run A outer s H args us vs Q E (hr.mono h)⟩
theorem Env0.in1 {P : Program} {w : World} {K : PySem.W.Frag} {mg : Str → Option Value} {base : Heap} {A : Around} {outer : List Env} {s : Shared} {H : Hp} (e : Env0 P w K mg base A outer s H) :
    Env0 P w K mg base A.in1 outer s H := ⟨e.frames, e.mod, e.bs, e.bsz, e.funs, e.frf, e.hok, e.bare⟩
section
variable {X : Cx} {pins : List (Addr × Obj)} {σ : St} {H : Hp} {s s' : Shared}
theorem Inv.env0 (I : Inv X pins σ H s) : Env0 X.prog X.w X.K X.mg X.base X.A X.stack s H :=
  ⟨I.ok.frames, I.ok.mod, I.bs, Nat.le_trans I.ok.bsz I.sz, I.stack, I.stkFree, I.hok, I.bare⟩
theorem Inv.after {Q : VK} {u : Value} (I : Inv X pins σ H s) (h : CE X.stack X.prog X.w H s Q u s') : EP X pins σ Q u s' := by
  obtain ⟨v, H', os, bare, un, hok, r, q⟩ := h
  obtain ⟨hh, g, d, t, os'⟩ := s'
  obtain rfl : os' = s.os := os
  exact ⟨v, H', I.call (h' := hh) (g' := g) (d' := d) (t' := t) (ch := []) un hok bare (fun b z => absurd z (by simp)), r, q⟩
end
def tCall (sp : Sp) (dvs : List V) (E : XK) (t : TA) : TE := fun σ H Q => t σ H fun vs H1 => sp (vs ++ dvs) H1 Q E
def Binds (K : PySem.W.Frag) (fd : FuncData) (ps : List Str) (ds : List Value) : Prop :=
  ∀ (s : Shared) (us : List Value), K.In s.heap → (us ++ ds).length = ps.length → BindsTo s fd ⟨us, []⟩ (ps.zip (us ++ ds))
theorem Binds.all {K : PySem.W.Frag} {fd : FuncData} {ps : List Str} (h : ∀ us : List Value, us.length = ps.length → bindArgs fd ⟨us, []⟩ = pure (ps.zip us)) : Binds K fd ps [] := fun s us _ hl => by
  rw [List.append_nil] at hl ⊢
  exact .of_eq (h us hl)
def Passes (CX : CXT) (X : Cx) (E : XK) : Prop := ∀ (pins : List (Addr × Obj)) (σ : St) (H : Hp) (s : Shared) (e : Value) (s' : Shared), Inv X pins σ H s → CX X.stack H s E e s' → X.xe e s'
section
variable {X : Cx} {CX : CXT} {k : Nat} {f C : Addr} {fd : FuncData} {ps : List Str} {sp : Sp} {dvs : List V} {ds : List Value} {E : XK} {x m : Str} {p pos apos : Pos} {e o : Expr} {es : List Expr} {ta : TE} {t : TA}
theorem run_fn {pins : List (Addr × Obj)} {σ : St} {H : Hp} {s : Shared} {Q : VK} {us : List Value} {vs : List V} (F : FnOk X.prog X.w X.K X.mg X.base CX k f fd ps sp) (hr : Room k X.A) (hb : Binds X.K fd ps ds) (hd : Vals dvs ds) (hx : Passes CX X E)
    (I : Inv X pins σ H s) (r : Vals vs us) (h : sp (vs ++ dvs) H Q E) : wpAny (model X.prog X.w) X.A (call (.ref f) us) (EP X pins σ Q) X.xe s := by
  have r2 : Vals (vs ++ dvs) (us ++ ds) := r.append hd
  have hl : (us ++ ds).length = ps.length := by rw [← r2.length]; exact F.len _ _ _ _ h
  refine wpAny_call (codeAny_mono (F.run X.A X.stack s H ⟨us, []⟩ (us ++ ds) (vs ++ dvs) Q E hr I.env0 (hb s us I.kIn hl) r2 h) fun r s' hq => ?_)
  cases r with
  | error e => exact hx pins σ H s e s' I hq
  | ok fl =>
    cases fl with
    | ret u => exact I.after hq
    | next => exact False.elim hq
    | brk => exact False.elim hq
    | cont => exact False.elim hq
theorem pe_call (F : FnOk X.prog X.w X.K X.mg X.base CX k f fd ps sp) (hr : Room k X.A) (hg : Gl X x) (hm : X.mg x = some (.ref f)) (hk : PySem.W.keepIn X.K (.ref f) = true) (hb : Binds X.K fd ps ds) (hd : Vals dvs ds) (hx : Passes CX X E)
    (ha : PA X (e :: es) t) (hdb : (x == ("__debug__" : Str)) = false := by decide) (he : starEach (e :: es) X.env = (false, eval e X.env) :: starEach es X.env := by rfl) (hpl : (backTo pos (starEach es X.env)).any (·.1) = false := by rfl) :
    PE X (.Call (.Name x p) (e :: es) [] pos) (tCall sp dvs E t) := by
  intro pins s σ H Q I h
  refine wpAny_Call_Name_kw (ld_glob I hg hm ?_ hdb)
  refine PySem.W.callWith_K (h₀ := X.base) I.ok.mod.kin hk (thn (ha pos pins s σ H _ I h) fun us s1 ⟨vs, H1, I1, r, q⟩ => ⟨I1.kIn, ?_⟩) he hpl
  exact run_fn F hr hb hd hx I1 r q
/-- what a class must have to be made -/
structure Mk (K : PySem.W.Frag) (C f : Addr) : Prop where
  makes : PySem.W.makesIn K C = true
  init : PySem.W.findIn K (.ref C) "__init__" = some (some (.ref f))
  fn : PySem.W.isFn K (.ref f) = true
  kp : PySem.W.keepIn K (.ref C) = true
end
section
variable {X : Cx} {CX : CXT} {k : Nat} {f C : Addr} {fd : FuncData} {ps ks : List Str} {sp : Sp} {E : XK} {x m : Str} {p pos apos kpos : Pos} {e o : Expr} {es : List Expr} {kws : List Keyword} {te ta : TE} {t tk : TA} {nm : Option Str}
/-- how a call with keywords binds: g puts the positional values us and the keywords' values ws (names ks) in the parameters' order, defaults among them -/
structure KBinds (K : PySem.W.Frag) (fd : FuncData) (ps ks : List Str) (g : List Value → List Value → List Value) (gV : List V → List V → List V) : Prop where
  to : ∀ (s : Shared) (us ws : List Value), K.In s.heap → (g us ws).length = ps.length → BindsTo s fd ⟨us, ks.zip ws⟩ (ps.zip (g us ws))
  rel : ∀ {vs : List V} {us : List Value} {zs : List V} {ws : List Value}, Vals vs us → Vals zs ws → Vals (gV vs zs) (g us ws)
variable {g : List Value → List Value → List Value} {gV : List V → List V → List V}
end
/-- names: the parameters first -/
structure FnScope (N P : List Str) (sc : Scope) : Prop where
  kind : sc.kind = .function
  co : sc.isCoroutine = false
  gen : sc.isGenerator = false
  nd : N.Nodup
  pre : N.take P.length = P
  par : ∀ x ∈ P, sc.names.lookup x = some .local ∨ sc.names.lookup x = some .cell
  nofree : ∀ y ∈ sc.names, y.2 ≠ .free
theorem bindL_out {kindOf : Str → Option NameKind} {x : Str} : ∀ {binds : List (Str × Value)} {m : Str → Option Value}, (∀ v, (x, v) ∉ binds) → bindL kindOf binds m x = m x
  | [], _, _ => rfl
  | (n, v) :: r, m, h => by
    unfold bindL
    rw [bindL_out fun w hw => h w (List.mem_cons_of_mem _ hw)]
    split
    · have : x ≠ n := by rintro rfl; exact h v List.mem_cons_self
      simp [this]
    · rfl
theorem bindC_out {kindOf : Str → Option NameKind} {x : Str} : ∀ {binds : List (Str × Value)} {m : Str → Option Value}, (∀ v, (x, v) ∉ binds) → bindC kindOf binds m x = m x
  | [], _, _ => rfl
  | (n, v) :: r, m, h => by
    unfold bindC
    rw [bindC_out fun w hw => h w (List.mem_cons_of_mem _ hw)]
    split
    · rfl
    · have : x ≠ n := by rintro rfl; exact h v List.mem_cons_self
      simp [this]
theorem bindL_get {kindOf : Str → Option NameKind} {x : Str} {v : Value} : ∀ {P : List Str} {vs : List Value} {i : Nat} {m : Str → Option Value}, P.Nodup → P[i]? = some x → vs[i]? = some v → kindOf x = some .local →
    bindL kindOf (P.zip vs) m x = some v
  | [], _, _, _, _, h, _, _ => by simp at h
  | _ :: _, [], _, _, _, _, h, _ => by simp at h
  | p :: P, w :: vs, 0, m, nd, h1, h2, hk => by
    simp at h1 h2; subst h1; subst h2
    show bindL kindOf ((p, w) :: P.zip vs) m p = _
    unfold bindL
    rw [bindL_out fun v hv => (List.nodup_cons.mp nd).1 (List.of_mem_zip hv).1, if_pos hk]
    simp
  | p :: P, w :: vs, i + 1, m, nd, h1, h2, hk => by
    show bindL kindOf ((p, w) :: P.zip vs) m x = _
    unfold bindL
    exact bindL_get (i := i) (List.nodup_cons.mp nd).2 (by simpa using h1) (by simpa using h2) hk
theorem bindC_get {kindOf : Str → Option NameKind} {x : Str} {v : Value} : ∀ {P : List Str} {vs : List Value} {i : Nat} {m : Str → Option Value}, P.Nodup → P[i]? = some x → vs[i]? = some v → kindOf x ≠ some .local →
    bindC kindOf (P.zip vs) m x = some v
  | [], _, _, _, _, h, _, _ => by simp at h
  | _ :: _, [], _, _, _, _, h, _ => by simp at h
  | p :: P, w :: vs, 0, m, nd, h1, h2, hk => by
    simp at h1 h2; subst h1; subst h2
    show bindC kindOf ((p, w) :: P.zip vs) m p = _
    unfold bindC
    rw [bindC_out fun v hv => (List.nodup_cons.mp nd).1 (List.of_mem_zip hv).1, if_neg hk]
    simp
  | p :: P, w :: vs, i + 1, m, nd, h1, h2, hk => by
    show bindC kindOf ((p, w) :: P.zip vs) m x = _
    unfold bindC
    exact bindC_get (i := i) (List.nodup_cons.mp nd).2 (by simpa using h1) (by simpa using h2) hk
def start (N : List Str) (vs : List V) : St := vs.map some ++ List.replicate (N.length - vs.length) none
def cxOf (CX : CXT) (P : Program) (w : World) (K : PySem.W.Frag) (mg : Str → Option Value) (base : Heap) (N : List Str) (qual : Str) (scope : Scope) (f : Addr) (cd : Value) (A : Around) (outer : List Env) (s : Shared) (H : Hp) (E : XK) : Cx where
  prog := P
  w := w
  K := K
  mg := mg
  base := base
  A := A.deeper (envOfC qual scope s.heap.objs.size f cd)
  N := N
  s_0 := s
  H_0 := H
  env := envOfC qual scope s.heap.objs.size f cd
  outer := outer
  stack := envOfC qual scope s.heap.objs.size f cd :: outer
  ex := []
  calm := true
  fn := fun _ => true
  pn := []
  xe := fun e s' => wpAny (model P w) (A.deeper (envOfC qual scope s.heap.objs.size f cd)) (leaving (envOfC qual scope s.heap.objs.size f cd) e) (fun _ s'' => CX outer H s E e s'') (fun e' s'' => CX outer H s E e' s'') s'
theorem cell_has {sc : Scope} {n : Nat} {x : Str} (h : sc.names.lookup x = some .cell) : ∃ c, (cellsFrom n sc.names []).lookup x = some c := by
  have q := PySem.W.cellsFrom_some sc.names n [] (.inl h)
  exact Option.isSome_iff_exists.mp q
theorem inv_start {CX : CXT} {P : Program} {w : World} {K : PySem.W.Frag} {mg : Str → Option Value} {base : Heap} {N ps : List Str} {qual : Str} {scope : Scope} {f : Addr} {cd : Value} {A : Around} {outer : List Env} {s s1 : Shared} {H : Hp} {E : XK} {us : List Value} {vs : List V}
    (S : FnScope N ps scope) (hd : A.handled = none) (e0 : Env0 P w K mg base A outer s H) (hl : vs.length = ps.length) (r : Vals vs us)
    (x : InCallC s s.heap.objs.size (bindL (envOfC qual scope s.heap.objs.size f cd).kindOf (ps.zip us) fun _ => none) (cellsFrom (s.heap.objs.size + 1) scope.names []) (bindC (envOfC qual scope s.heap.objs.size f cd).kindOf (ps.zip us) fun _ => none) s1) :
    Inv (cxOf CX P w K mg base N qual scope f cd A outer s H E) [] (start N vs) H s1 := by
  have hpl : ps.length ≤ N.length := by have := congrArg List.length S.pre; rw [List.length_take] at this; omega
  obtain ⟨h1, tk, rfl, hk⟩ := x.done
  have noA : ∀ b : Addr, b ∉ (cxOf CX P w K mg base N qual scope f cd A outer s H E).ex := fun b z => absurd (show b ∈ ([] : List Addr) from z) (by simp)
  refine ⟨⟨e0.mod, S.kind, rfl, rfl, Nat.le_refl _, fun y z c h1 h2 => ?_, fun y hy => ?_, fun y c _ h => ?_, fun _ => hd, Around.frames_deeper e0.frames, .inr ⟨rfl, rfl⟩, fun b z => absurd z (noA b), e0.bs, e0.bsz, fun b _ _ => noA b, fun b z => absurd z (noA b), e0.funs, e0.frf⟩,
    rfl, e0.bare, Un.kept hk, ⟨_, x.toInCall.ns, fun i y v h1 h2 h3 => ?_⟩, fun y c h => ⟨_, x.cell y c h⟩, e0.hok.fresh (Nat.le_refl _), fun y c h => ?_, fun p hp => absurd (show p ∈ ([] : List (Addr × Obj)) from hp) (by simp), e0.hok.kept hk, ?_⟩
  · exact name_of_addr x.apart (PySem.mem_of_lookup h1) (PySem.mem_of_lookup h2)
  · have hy : scope.names.lookup y = some .cell ∨ scope.names.lookup y = some .free := hy
    rcases hy with hy | hy
    · exact cell_has hy
    · exact absurd rfl (S.nofree _ (PySem.mem_of_lookup hy))
  · exact Nat.le_of_lt (x.above y c (PySem.mem_of_lookup h))
  · have hi : i < vs.length := by
      unfold start at h2
      by_cases hi : i < vs.length
      · exact hi
      · rw [List.getElem?_append_right (by simpa using hi)] at h2
        rw [List.getElem?_replicate] at h2
        split at h2 <;> cases h2
    have ha : vs[i]? = some v := by
      unfold start at h2
      rw [List.getElem?_append_left (by simpa using hi), List.getElem?_map] at h2
      cases e : vs[i]? with
      | none => rw [e] at h2; cases h2
      | some a => rw [e] at h2; cases h2; rfl
    obtain ⟨u, hu, rv⟩ := r.get ha
    have hp : ps[i]? = some y := by
      rw [← S.pre, List.getElem?_take_of_lt (by omega)]; exact h1
    have ndP : ps.Nodup := by rw [← S.pre]; exact S.nd.sublist (List.take_sublist _ _)
    refine ⟨u, rv, ?_⟩
    rcases S.par y (List.mem_of_getElem? hp) with k | k
    · exact .inl ⟨k, bindL_get ndP hp hu k⟩
    · obtain ⟨c, e⟩ := cell_has (n := s.heap.objs.size + 1) k
      refine .inr ⟨.inl k, c, e, ?_⟩
      have q := x.cell y c e
      rw [bindC_get ndP hp hu (by show scope.names.lookup y ≠ _; rw [k]; decide)] at q
      exact q
  · exact e0.hok.fresh (Nat.le_of_lt (x.above y c (PySem.mem_of_lookup h)))
  · unfold start
    show _ = N.length
    rw [List.length_append, List.length_map, List.length_replicate]
    omega
theorem fn_of {CX : CXT} {P : Program} {w : World} {K : PySem.W.Frag} {mg : Str → Option Value} {base : Heap} {k : Nat} {f : Addr} {name qual : Str} {params : Arguments} {body : List Stmt} {scope : Scope} {dV kV doc pm cdv ct oc : Value} {an od : Option Addr}
    {osl : Array (Option Value)} {N ps : List Str} {sp : Sp} (lk : K.lookup f = some ⟨oc, od, .func (PySem.W.fnOf name qual params body scope dV kV doc pm an cdv ct), osl⟩) (hcd : PySem.W.codeIn K cdv qual = true) (S : FnScope N ps scope)
    (len : ∀ vs H Q E, sp vs H Q E → vs.length = ps.length)
    (hbody : ∀ (A : Around) (outer : List Env) (s : Shared) (H : Hp) (vs : List V) (Q : VK) (E : XK), Room k (A.deeper (envOfC qual scope s.heap.objs.size f cdv)) → sp vs H Q E →
      ∃ t, PSs (cxOf CX P w K mg base N qual scope f cdv A outer s H E) body t ∧ t { nx := fun _ H' => Q .non H', rt := Q } (start N vs) H) :
    FnOk P w K mg base CX (k + 1) f (PySem.W.fnOf name qual params body scope dV kV doc pm an cdv ct) ps sp := by
  refine ⟨len, fun A outer s H args us vs Q E hr e0 hb r hsp => ?_⟩
  have hl := len _ _ _ _ hsp
  have KX : K.In s.heap := e0.mod.kin.keeps fun b o e => (e0.bs b o e).1
  have lim : s.heap.NoLimit := e0.mod.nolimit.keeps fun b o e => (e0.bs b o e).1
  have hkind : ∀ y ∈ ps.zip us, scope.names.lookup y.1 = some .local ∨ (scope.names.lookup y.1 = some .cell ∧ ((cellsFrom (s.heap.objs.size + 1) scope.names []).lookup y.1).isSome = true) := fun ⟨n, v⟩ hy => by
    rcases S.par n (List.of_mem_zip hy).1 with q | q
    · exact .inl q
    · exact .inr ⟨q, PySem.W.cellsFrom_some _ _ _ (.inl q)⟩
  refine codeAny_call_function hr.depth (KX _ _ lk) rfl S.co S.gen rfl (PySem.W.codeRec_of KX hcd) (hb _ _ _ _ ?_)
  refine wpAny_newFunctionEnv_cells S.kind hkind fun env he s1 x => ?_
  subst he
  refine ⟨lim.keeps x.toInCall.keep, codeAny_func ?_⟩
  obtain ⟨t, ht, hq⟩ := hbody A outer s H vs Q E (hr.deeper _) hsp
  have I : Inv (cxOf CX P w K mg base N qual scope f cdv A outer s H E) [] (start N vs) H s1 := inv_start S hr.hd e0 hl r x
  refine wpAny_mono (ht [] s1 (start N vs) H _ I hq) (fun fl s' hs => ?_) fun e s' hs => hs
  have fin : ∀ {σ' : St} {H' : Hp} {v : V} {u : Value}, Inv (cxOf CX P w K mg base N qual scope f cdv A outer s H E) [] σ' H' s' → RelV v u → Q v H' → CE outer P w H s Q u s' :=
    fun {σ' H' v u} J rv q => ⟨v, H', J.os, J.bare, J.base, J.hok, rv, q⟩
  cases fl with
  | ret u =>
    obtain ⟨v, σ', H', J, rv, q⟩ := hs
    exact fin J rv q
  | next =>
    obtain ⟨σ', H', J, q⟩ := hs
    exact fin (v := V.non) (u := Value.none) J rfl q
  | brk =>
    obtain ⟨_, _, _, q⟩ := hs
    exact False.elim q
  | cont =>
    obtain ⟨_, _, _, q⟩ := hs
    exact False.elim q
end L2
namespace L2
open PySem PySem.Spec PyProof.Rows
section
variable {X : Cx} {x : Str} {p pos : Pos} {e : Expr} {es : List Expr} {t : TA} {id T : String} {r : List V → Hp → VK → Prop}
def tCB (r : List V → Hp → VK → Prop) (t : TA) : TE := fun σ H Q => t σ H fun vs H1 => r vs H1 Q
theorem pe_callB (hc : CallR X (.builtin id) r) (hg : Gl X x) (hm : X.mg x = none) (hv : bootBuiltins x = some (.builtin id)) (ha : PA X (e :: es) t) (hn : x ≠ "__name__" := by decide) (hdb : (x == ("__debug__" : Str)) = false := by decide)
    (he : starEach (e :: es) X.env = (false, eval e X.env) :: starEach es X.env := by rfl) (hpl : (backTo pos (starEach es X.env)).any (·.1) = false := by rfl) : PE X (.Call (.Name x p) (e :: es) [] pos) (tCB r t) := by
  intro pins s σ H Q I h
  refine wpAny_Call_Name_kw (ld_blt I hg hm hv ?_ hn hdb)
  exact PyProof.Rows.callWith_builtin1 (thn (ha pos pins s σ H _ I h) fun us s1 ⟨vs, H1, I1, r1, q1⟩ => hc pins s1 σ H1 vs us Q I1 r1 q1) he hpl
end
end L2
namespace HT
open PySem PyProof.Rows
section
open PySem.SeqAt
open PySem.AutoSeq1 (wpAny_loadPart')
open PySem.MeetsSeq PySem.MeetsSeq2 PySem.MeetsSeq3
end
section
variable {prog : Program} {w : World} {A : Around} {E : Value → Shared → Prop} {s : Shared}
end
end HT
namespace L2
open PySem PySem.Spec PyProof.Rows
abbrev TO := St → Hp → (Option Int → Hp → Prop) → Prop
section
variable {X : Cx} {e : Expr} {te : TE} {lo hi : Option Expr} {tl th : TO} {pos p2 : Pos}
def SlR (X : Cx) (r : V → Option Int → Option Int → Hp → VK → Prop) : Prop :=
  ∀ (pins : List (Addr × Obj)) (s : Shared) (σ : St) (H : Hp) (x : V) (v vl vu : Value) (lo hi : Option Int) (sl : Addr) (Q : VK), Inv X pins σ H s → RelV x v → s.heap.IsSliceOf sl vl vu .none → IsPart vl lo → IsPart vu hi → r x lo hi H Q →
    ∃ T id, typeLookup (.type T) "__getitem__" = pure (some (.builtin id)) ∧ s.TypeIs v T ∧ wpAny (model X.prog X.w) X.A (getItem v (.ref sl)) (EP X pins σ Q) X.xe s
theorem SlR.or {r r' : V → Option Int → Option Int → Hp → VK → Prop} (h : SlR X r) (h' : SlR X r') : SlR X (fun x lo hi H Q => r x lo hi H Q ∨ r' x lo hi H Q) := by
  intro pins s σ H x v vl vu lo hi sl Q I rx hs pl pu q
  rcases q with q | q
  · exact h pins s σ H x v vl vu lo hi sl Q I rx hs pl pu q
  · exact h' pins s σ H x v vl vu lo hi sl Q I rx hs pl pu q
end
end L2
namespace L2
open PySem PySem.Spec PyProof.Rows
def ixN (n : Nat) (i : Int) : Option Nat := if 0 ≤ i then (if i < n then some i.toNat else none) else if -(n : Int) ≤ i then some (i + n).toNat else none
def atI {α : Type} (xs : List α) (i : Int) : Option α := (ixN xs.length i).bind fun j => xs[j]?
theorem ixN_seq {n : Nat} {i : Int} {j : Nat} (h : ixN n i = some j) : seqIndex? i n = some j ∧ j < n ∧ -(n : Int) ≤ i ∧ i < n := by
  unfold ixN at h
  by_cases h0 : 0 ≤ i
  · rw [if_pos h0] at h
    by_cases h1 : i < n
    · rw [if_pos h1] at h
      have e : i.toNat = j := Option.some.inj h
      exact ⟨by rw [seqIndex_of h0 h1, e], by omega, by omega, h1⟩
    · rw [if_neg h1] at h; cases h
  · rw [if_neg h0] at h
    by_cases h1 : -(n : Int) ≤ i
    · rw [if_pos h1] at h
      have e : (i + n).toNat = j := Option.some.inj h
      exact ⟨by rw [seqIndex_neg (by omega) h1, e], by omega, h1, by omega⟩
    · rw [if_neg h1] at h; cases h
theorem atI_get {α : Type} {xs : List α} {i : Int} {v : α} (h : atI xs i = some v) : ∃ j, seqIndex? i xs.length = some j ∧ xs[j]? = some v ∧ j < xs.length ∧ -(xs.length : Int) ≤ i ∧ i < xs.length := by
  unfold atI at h
  cases e : ixN xs.length i with
  | none => rw [e] at h; cases h
  | some j =>
    rw [e] at h
    obtain ⟨h1, h2, h3, h4⟩ := ixN_seq e
    exact ⟨j, h1, h, h2, h3, h4⟩
theorem atI_nat {α : Type} {xs : List α} {j : Nat} {v : α} (h : xs[j]? = some v) : atI xs (j : Int) = some v := by
  have hj : j < xs.length := (List.getElem?_eq_some_iff.mp h).1
  have e : ixN xs.length (j : Int) = some j := by
    unfold ixN
    rw [if_pos (by omega), if_pos (by omega)]; simp
  unfold atI; rw [e]; exact h
def PlainIx (b : Expr) : Prop := ∀ o i, subscripted b false o i = operate [o, i] (getItem o i)
def IxR (X : Cx) (r : R2) : Prop :=
  ∀ (value slice : Expr) (pins : List (Addr × Obj)) (s : Shared) (σ : St) (H : Hp) (x y : V) (v u : Value) (Q : VK), Inv X pins σ H s → RelV x v → RelV y u → r x y H Q →
    subscripted slice false v u = operate [v, u] (getItem v u) → wpAny (model X.prog X.w) X.A (subscriptTail value slice v u) (EP X pins σ Q) X.xe s
def MtR (X : Cx) (id : String) (r : V → List V → Hp → VK → Prop) : Prop :=
  ∀ (pins : List (Addr × Obj)) (s : Shared) (σ : St) (H : Hp) (x : V) (xs : List V) (v : Value) (us : List Value) (Q : VK), Inv X pins σ H s → RelV x v → Vals xs us → r x xs H Q →
    wpAny (model X.prog X.w) X.A (call (.builtin id) (v :: us)) (EP X pins σ Q) X.xe s
section
variable {X : Cx} {a b : Expr} {ta tb : TE} {pos : Pos}
theorem IxR.or {r r' : R2} (h : IxR X r) (h' : IxR X r') : IxR X (fun x y H Q => r x y H Q ∨ r' x y H Q) := by
  intro value slice pins s σ H x y v u Q I rx ry q hs
  rcases q with q | q
  · exact h value slice pins s σ H x y v u Q I rx ry q hs
  · exact h' value slice pins s σ H x y v u Q I rx ry q hs
theorem MtR.or {id : String} {r r' : V → List V → Hp → VK → Prop} (h : MtR X id r) (h' : MtR X id r') : MtR X id (fun x xs H Q => r x xs H Q ∨ r' x xs H Q) := by
  intro pins s σ H x xs v us Q I rx rs q
  rcases q with q | q
  · exact h pins s σ H x xs v us Q I rx rs q
  · exact h' pins s σ H x xs v us Q I rx rs q
theorem pe_ix {r : R2} (hr : IxR X r) (ha : PE X a ta) (hb : PE X b tb) (hs : PlainIx b) : PE X (.Subscript a b pos) (tOp r ta tb) := by
  intro pins s σ H Q I h
  exact Subscript_ (binT ha hb I h fun v u s2 x y H2 I2 rx ry q => hr a b pins s2 σ H2 x y v u Q I2 rx ry q (hs _ _))
def rIxL (K : PySem.W.Frag) : R2 := fun x y H Q => ∃ p xs i v, x = .ref p ∧ y = .int i ∧ SqL K H p xs ∧ atI xs i = some v ∧ Q v H
def rIxT (K : PySem.W.Frag) : R2 := fun x y H Q => ∃ p xs i v, x = .ref p ∧ y = .int i ∧ SqT K H p xs ∧ atI xs i = some v ∧ Q v H
theorem ix_list : IxR X (rIxL X.K) := by
  intro value slice pins s σ H x y v u Q I rx ry h hs
  obtain ⟨p, xs, i, z, rfl, rfl, hq, he, q⟩ := h
  cases rx
  obtain ⟨t, rfl⟩ := ry
  obtain ⟨its, r, pl, hz⟩ := I.list hq
  obtain ⟨j, h1, h2, h3, h4, h5⟩ := atI_get he
  obtain ⟨w, ew, rw'⟩ := r.get h2
  have hl := r.length
  have hn := line63
  have fin : EP X pins σ Q w s := ⟨z, H, I, rw', q⟩
  by_cases h0 : 0 ≤ i
  · have hj : i.toNat = j := by
      rw [seqIndex_of h0 h5] at h1
      exact Option.some.inj h1
    exact item_listR pl.isList h0 (by omega) (by rw [hj]; simpa using ew) fin hs
  · have hj : (i + (its.toArray.size : Int)).toNat = j := by
      rw [seqIndex_neg (by omega) h4] at h1
      rw [List.size_toArray, ← hl]
      exact Option.some.inj h1
    exact subscriptTail_builtinR (x := w) pl.isList.typeIs slot_list_getitem.lookup
      (wpAny_getItem_list_neg (Q := fun r s' => r = w ∧ EP X pins σ Q r s') pl.isList (by omega) (by rw [List.size_toArray] <;> omega) (by omega) (by rw [hj]; simpa using ew) ⟨rfl, fin⟩) hs
theorem ix_tup : IxR X (rIxT X.K) := by
  intro value slice pins s σ H x y v u Q I rx ry h hs
  obtain ⟨p, xs, i, z, rfl, rfl, hq, he, q⟩ := h
  cases rx
  obtain ⟨t, rfl⟩ := ry
  obtain ⟨its, r, pl, hz⟩ := I.tuple hq
  obtain ⟨j, h1, h2, h3, h4, h5⟩ := atI_get he
  obtain ⟨w, ew, rw'⟩ := r.get h2
  have hl := r.length
  have hn := line63
  have fin : EP X pins σ Q w s := ⟨z, H, I, rw', q⟩
  exact subscriptTail_builtinR (x := w) pl.typeIs slot_tuple_getitem.lookup
    (getItem_tuple (j := j) (Q := fun r s' => r = w ∧ EP X pins σ Q r s') pl (by omega) (by omega) (by rw [List.size_toArray, ← hl]; exact h1) (by simpa using ew) ⟨rfl, fin⟩) hs
theorem Inv.lst {pins : List (Addr × Obj)} {σ : St} {H : Hp} {s : Shared} {p : Addr} {xs : List V} (I : Inv X pins σ H s) (h : H p = some (.lst xs)) :
    ∃ (its : List Value) (n : Nat), Vals xs its ∧ s.heap.get? p = some { cls := .type "list", data := .seq its.toArray n } ∧ xs.length ≤ sizeLine := by
  obtain ⟨z, its, n, r, e⟩ := I.hok p _ h
  exact ⟨its, n, r, e, z⟩
theorem call_len_seq : CallR X (.builtin "len") (fun xs H Q => ∃ p ys, xs = [.ref p] ∧ (SqL X.K H p ys ∨ SqT X.K H p ys) ∧ Q (.int ys.length) H) := by
  intro pins s σ H xs us Q I r h
  obtain ⟨p, ys, rfl, hq, q⟩ := h
  obtain ⟨u, rfl, rx⟩ := vals1 r
  cases rx
  have hn := line63
  rcases hq with hq | hq
  · obtain ⟨its, r', pl, hz⟩ := I.list hq
    have hlen := r'.length
    exact Calls.call_len_list pl.isList (by simp only [List.size_toArray] <;> omega) ⟨.int ys.length, H, I.tok _, ⟨s.toks + 1, by rw [List.size_toArray, hlen]⟩, q⟩
  · obtain ⟨its, r', pl, hz⟩ := I.tuple hq
    have hlen := r'.length
    exact len_tuple pl (by simp only [List.size_toArray] <;> omega) ⟨.int ys.length, H, I.tok _, ⟨s.toks + 1, by rw [List.size_toArray, hlen]⟩, q⟩
theorem CallR.or {f : Value} {r r' : List V → Hp → VK → Prop} (h : CallR X f r) (h' : CallR X f r') : CallR X f (fun xs H Q => r xs H Q ∨ r' xs H Q) := by
  intro pins s σ H xs us Q I rs q
  rcases q with q | q
  · exact h pins s σ H xs us Q I rs q
  · exact h' pins s σ H xs us Q I rs q
variable {o e : Expr} {es : List Expr} {to : TE} {t : TA} {name : Str} {apos cpos : Pos} {T id : String} {r : V → List V → Hp → VK → Prop}
end
end L2
namespace L2
open PySem PySem.Spec PyProof.Rows
theorem Vals.one : ∀ {x : V} {us : List Value}, Vals [x] us → ∃ u, us = [u] ∧ RelV x u
  | _, _, .cons r .nil => ⟨_, rfl, r⟩
theorem Vals.two : ∀ {x y : V} {us : List Value}, Vals [x, y] us → ∃ u v, us = [u, v] ∧ RelV x u ∧ RelV y v
  | _, _, _, .cons r (.cons q .nil) => ⟨_, _, rfl, r, q⟩
theorem Vals.zero : ∀ {us : List Value}, Vals [] us → us = []
  | _, .nil => rfl
theorem Vals.rep {xs : List V} {us : List Value} (h : Vals xs us) : ∀ k : Nat, Vals (List.replicate k xs).flatten (List.replicate k us).flatten
  | 0 => .nil
  | k + 1 => by
    rw [List.replicate_succ, List.replicate_succ, List.flatten_cons, List.flatten_cons]
    exact Vals.append h (Vals.rep h k)
theorem foldl_rep (its : List Value) : ∀ (k : Nat) (acc : List Value),
    List.foldl (fun x1 x2 => x1 ++ x2) acc.toArray (List.replicate k its.toArray) = (acc ++ (List.replicate k its).flatten).toArray
  | 0, acc => by simp
  | k + 1, acc => by
    have e : acc.toArray ++ its.toArray = (acc ++ its).toArray := by simp
    have e2 : (acc ++ its) ++ (List.replicate k its).flatten = acc ++ (List.replicate (k + 1) its).flatten := by
      rw [List.replicate_succ, List.flatten_cons, List.append_assoc]
    rw [← e2, ← foldl_rep its k (acc ++ its), ← e, List.replicate_succ, List.foldl_cons]
section
variable {X : Cx} {pins : List (Addr × Obj)} {σ : St} {H : Hp} {s : Shared} {l b : Addr} {xs ys zs : List V}
theorem Inv.lnew {its : List Value} {t' : Nat} (I : Inv X pins σ H s) (hv : Vals ys its) (hz : ys.length ≤ sizeLine) :
    Inv X pins σ (upd H s.heap.objs.size (.lst ys)) { s with heap := s.heap.push { cls := .type "list", data := .seq its.toArray }, toks := t' } :=
  I.laid (fun _ _ q => Heap.get?_push_of_some _ q) (Nat.le_refl _) ⟨hz, its, 0, hv, Heap.get?_push_size _ rfl⟩
theorem Inv.fresh (I : Inv X pins σ H s) : H s.heap.objs.size = none := I.hok.fresh (Nat.le_refl _)
theorem Inv.lstM (I : Inv X pins σ H s) (hH : H l = some (.lst xs)) : xs.length ≤ sizeLine ∧ ∃ (its : List Value) (n : Nat), Vals xs its ∧ xs.length = its.length ∧ s.heap.get? l = some { cls := .type "list", data := .seq its.toArray n } := by
  obtain ⟨z, its, n, r, e⟩ := I.hok l _ hH
  exact ⟨z, its, n, r, r.length, e⟩
theorem notLongL {n : Nat} (h : n ≤ sizeLine) : Builtin.List.listTooLong n = false := by
  unfold Builtin.List.listTooLong
  exact decide_eq_false (by omega)
end
section
variable {X : Cx}
def rCat : R2 := fun x y H Q => ∃ l b xs zs, x = .ref l ∧ y = .ref b ∧ H l = some (.lst xs) ∧ H b = some (.lst zs) ∧ xs.length + zs.length ≤ sizeLine ∧ ∀ p, H p = none → Q (.ref p) (upd H p (.lst (xs ++ zs)))
theorem op_cat : OpR X (binaryOp .Add) rCat := by
  intro pins s σ H x y v u Q I rx ry h
  obtain ⟨l, b, xs, zs, rfl, rfl, hH, hB, hz, q⟩ := h
  cases rx
  cases ry
  obtain ⟨z, its, n, r, hl, e⟩ := I.lstM hH
  obtain ⟨z2, its2, n2, r2, hl2, e2⟩ := I.lstM hB
  refine PySem.P.add_list e e2 ?_ (by rw [List.size_toArray, List.size_toArray]; omega)
  have ea : its.toArray ++ its2.toArray = (its ++ its2).toArray := by simp
  rw [ea]
  exact ⟨.ref _, _, I.lnew (t' := s.toks) (r.append r2) (by rw [List.length_append]; omega), rfl, q _ I.fresh⟩
def rRep : R2 := fun x y H Q => ∃ l k xs, x = .ref l ∧ y = .int k ∧ H l = some (.lst xs) ∧ -(2 ^ 63) ≤ k ∧ k < 2 ^ 63 ∧ xs.length * k.toNat ≤ sizeLine ∧
  ∀ p, H p = none → Q (.ref p) (upd H p (.lst (List.replicate k.toNat xs).flatten))
theorem len_rep {α : Type} (xs : List α) (k : Nat) : (List.replicate k xs).flatten.length = k * xs.length := by
  induction k with
  | zero => simp
  | succ k ih => rw [List.replicate_succ, List.flatten_cons, List.length_append, ih, Nat.succ_mul, Nat.add_comm]
theorem op_rep : OpR X (binaryOp .Mult) rRep := by
  intro pins s σ H x y v u Q I rx ry h
  obtain ⟨l, k, xs, rfl, rfl, hH, h1, h2, hz, q⟩ := h
  cases rx
  obtain ⟨t, rfl⟩ := ry
  obtain ⟨z, its, n, r, hl, e⟩ := I.lstM hH
  have hlen : its.toArray.size * k.toNat ≤ sizeLine := by rw [List.size_toArray, ← hl]; exact hz
  have hcap : ¬ its.toArray.size * k.toNat > (2 ^ 63 - 1) / 8 := by
    have : (sizeLine : Nat) ≤ (2 ^ 63 - 1) / 8 := by decide
    omega
  have hfit : ¬ (!Builtin.List.listFitsIndex k) = true := by
    rw [fitsIndex_both h1 h2]
    exact Bool.false_ne_true
  have hlong : ¬ Builtin.List.listTooLong (its.toArray.size * k.toNat) = true := by
    rw [notLongL hlen]
    exact Bool.false_ne_true
  have hnew : List.foldl (fun x1 x2 => x1 ++ x2) #[] (List.replicate (if its.toArray.isEmpty = true then 0 else k.toNat) its.toArray) = (List.replicate k.toNat its).flatten.toArray := by
    have f0 : ∀ m : Nat, List.foldl (fun x1 x2 => x1 ++ x2) #[] (List.replicate m its.toArray) = (List.replicate m its).flatten.toArray := fun m => by
      have := foldl_rep its m []
      rw [List.nil_append] at this
      exact this
    rw [f0]
    cases its with
    | nil => simp
    | cons a r' => rw [if_neg (by simp)]
  refine wpAny_binaryOp_repeat_ref (T := "list") (U := "int") (by decide) ⟨_, e, rfl⟩ (fun s' => typeIs_int s' k t) noFill_list_mul F.fills_int_mul F.slot_int_rmul repeat_list F.slot_int_index.lookup
    (call_meets F.slot_int_rmul (typeIs_int s k t) F.entry_int_rmul (F.args_int_rmul_2 _ _) (int___rmul___int_list k t l its.toArray n)
      ⟨e, rfl, ⟨_, e, rfl⟩, call_meets F.slot_list_mul ⟨_, e, rfl⟩ F.entry_list_mul (F.args_list_mul_2 _ _) (AutoListH.list___mul___list_int_3 l its.toArray n k t hfit hcap hlong) ⟨e, ?_⟩⟩)
  rw [hnew]
  exact ⟨.ref _, _, I.lnew (t' := s.toks) (r.rep k.toNat) (by rw [len_rep, Nat.mul_comm]; exact hz), rfl, q _ I.fresh⟩
end
section
variable {prog : Program} {w : World} {A : Around} {E : Value → Shared → Prop} {s : Shared}
end
section
variable {X : Cx}
end
end L2
namespace L2
open PySem PySem.Spec PyProof.Rows
theorem Vals.ints : ∀ {ns : List Int} {us : List Value}, Vals (ns.map V.int) us → IntsAre us ns
  | [], us, h => by
    rw [List.map_nil] at h
    cases h
    exact IntsAre.nil
  | n :: ns, us, h => by
    rw [List.map_cons] at h
    cases h with
    | cons r t =>
      obtain ⟨k, rfl⟩ := r
      exact IntsAre.cons n k (Vals.ints t)
theorem Vals.strs : ∀ {xs : List Str} {us : List Value}, Vals (xs.map V.str) us → StrsAre us xs
  | [], us, h => by
    rw [List.map_nil] at h
    cases h
    exact StrsAre.nil
  | x :: xs, us, h => by
    rw [List.map_cons] at h
    cases h with
    | cons r t =>
      obtain ⟨k, rfl⟩ := r
      exact StrsAre.cons x k (Vals.strs t)
theorem Vals.bls : ∀ {bs : List Bool} {us : List Value}, Vals (bs.map V.bl) us → us = bs.map Value.bool
  | [], us, h => by
    rw [List.map_nil] at h
    cases h
    rfl
  | b :: bs, us, h => by
    rw [List.map_cons] at h
    cases h with
    | cons r t =>
      cases r
      rw [Vals.bls t, List.map_cons]
theorem Vals.ref1 {a : Addr} {us : List Value} (r : Vals [V.ref a] us) : us = [Value.ref a] := by
  cases r with
  | cons r t =>
    cases t
    cases r
    rfl
section
variable {prog : Program} {w : World} {A : Around} {E : Value → Shared → Prop} {s : Shared} {l : Addr} {its : List Value} {ns : List Int} {Q : Value → Shared → Prop}
end
section
variable {X : Cx}
end
section
variable {X : Cx}
end
section
variable {X : Cx}
end
theorem iter_any {prog : Program} {w : World} {A : Around} {E : Value → Shared → Prop} {s : Shared} {l : Addr} {items : Array Value} {Q : Value → Shared → Prop} (hl : s.heap.IsList l items)
    (h : ∀ s₂ : Shared, s₂ = { s with heap := s.heap.push { cls := .type "list_iterator", data := .fields #[.ref l, .int 0 0] } } →
      (s₂.heap.IsListIter s.heap.objs.size l 0 ∧ s₂.heap.IsList l items) → l ≠ s.heap.objs.size → Q (.ref s.heap.objs.size) s₂) : wpAny (model prog w) A (pyIter (.ref l)) Q E s := by
  have hlt : l < s.heap.objs.size := by obtain ⟨_, e, _⟩ := hl; exact Heap.lt_size e
  exact wpAny_pyIter_list hl (h _ rfl ⟨⟨_, Heap.get?_push_size _ rfl, rfl, rfl⟩, hl.push _⟩ (Nat.ne_of_lt hlt))
theorem truth_bools {prog : Program} {w : World} {A : Around} {bs : List Bool} {its : List Value} (e : its = bs.map Value.bool) :
    TruthOf prog w A (fun i v => its.toArray[i]? = some v) (fun i => bs.getD i false) := fun i v s Q E hv hq => by
  have hv' : its[i]? = some v := by simpa using hv
  rw [e, List.getElem?_map] at hv'
  obtain ⟨b, hb, rfl⟩ := Option.map_eq_some_iff.mp hv'
  have hg : bs.getD i false = b := by rw [List.getD_eq_getElem?_getD, hb] <;> rfl
  have hq' : Q (bs.getD i false) s := hq
  rw [hg] at hq'
  exact wpAny_truthy_bool hq'
theorem all_range : ∀ bs : List Bool, (List.range bs.length).all (fun i => bs.getD i false) = bs.all id
  | [] => rfl
  | b :: bs => by
    rw [List.length_cons, List.range_succ_eq_map, List.all_cons, List.all_map, List.all_cons, ← all_range bs]
    all_goals rfl
section
variable {X : Cx}
def rAll (K : PySem.W.Frag) : List V → Hp → VK → Prop := fun vs H Q => ∃ (a : Addr) (bs : List Bool), vs = [V.ref a] ∧ SqL K H a (bs.map V.bl) ∧ Q (.bl (bs.all id)) H
theorem cr_all (hc : X.calm = true) : CallR X (.builtin "all") (rAll X.K) := by
  intro pins s σ H vs us Q I r h
  obtain ⟨a, bs, rfl, hs, q⟩ := h
  obtain ⟨its, rv, hl, _⟩ := I.list hs
  rw [Vals.ref1 r]
  have hb := rv.bls
  refine call_all_walk (iter_any hl.isList fun s₂ e2 st hne => ?_)
  subst e2
  refine ⟨_, _, _, _, _, _, _, rfl, Walks.list (A := X.A.in1) (I.ok.hd hc) _ a hne its.toArray, st, truth_bools hb, fun h' tk hk => ?_⟩
  refine ⟨.bl _, H, I.kept fun b o eo => hk b o (fun hmem => ?_) (Heap.get?_push_of_some _ eo), ?_, q⟩
  · rcases List.mem_cons.mp hmem with e1 | hmem
    · exact absurd (e1 ▸ Heap.lt_size eo) (Nat.lt_irrefl _)
    · cases hmem
  · show Value.bool _ = Value.bool _
    rw [← all_range, hb, List.size_toArray, List.length_map]
end
mutual
inductive Dp (K : PySem.W.Frag) (H : Hp) : V → PyData → Prop
  | non : Dp K H .non .none
  | bl (b : Bool) : Dp K H (.bl b) (.bool b)
  | int (i : Int) : Dp K H (.int i) (.int i)
  | str (x : Str) : Dp K H (.str x) (.str x)
  | lst {a : Addr} {xs : List V} {ds : List PyData} : SqL K H a xs → DpAll K H xs ds → Dp K H (.ref a) (.list ds)
  | tup {a : Addr} {xs : List V} {ds : List PyData} : SqT K H a xs → DpAll K H xs ds → Dp K H (.ref a) (.tuple ds)
inductive DpAll (K : PySem.W.Frag) (H : Hp) : List V → List PyData → Prop
  | nil : DpAll K H [] []
  | cons {v : V} {vs : List V} {d : PyData} {ds : List PyData} : Dp K H v d → DpAll K H vs ds → DpAll K H (v :: vs) (d :: ds)
end
section
variable {X : Cx} {pins : List (Addr × Obj)} {σ : St} {H : Hp} {s : Shared}
mutual
theorem Dp.reads (I : Inv X pins σ H s) : ∀ (d : PyData) (v : V) (u : Value), Dp X.K H v d → RelV v u → ∃ as, Reads s.heap u d as
  | .none, _, _, h, r => by
    cases h
    cases r
    exact ⟨_, Reads.none⟩
  | .bool b, _, _, h, r => by
    cases h
    cases r
    exact ⟨_, Reads.bool b⟩
  | .int i, _, _, h, r => by
    cases h
    obtain ⟨t, rfl⟩ := r
    exact ⟨_, Reads.int i t⟩
  | .str x, _, _, h, r => by
    cases h
    obtain ⟨t, rfl⟩ := r
    exact ⟨_, Reads.str x t⟩
  | .list ds, _, _, h, r => by
    cases h with
    | lst hs ha =>
      cases r
      obtain ⟨its, rv, ⟨o, n, ho, hc, _, hd⟩, _⟩ := I.list hs
      obtain ⟨as, hr⟩ := Dp.readsAll I ds _ its ha rv
      exact ⟨_, Reads.list ho hc hd hr⟩
  | .tuple ds, _, _, h, r => by
    cases h with
    | tup hs ha =>
      cases r
      obtain ⟨its, rv, ⟨o, ho, hc, n, hd⟩, _⟩ := I.tuple hs
      obtain ⟨as, hr⟩ := Dp.readsAll I ds _ its ha rv
      exact ⟨_, Reads.tuple ho hc hd hr⟩
  | .dict _, _, _, h, _ => by cases h
theorem Dp.readsAll (I : Inv X pins σ H s) : ∀ (ds : List PyData) (vs : List V) (us : List Value), DpAll X.K H vs ds → Vals vs us → ∃ as, ReadsAll s.heap us ds as
  | [], _, _, h, r => by
    cases h
    cases r
    exact ⟨_, ReadsAll.nil⟩
  | d :: ds, _, _, h, r => by
    cases h with
    | cons h1 h2 =>
      cases r with
      | cons r1 r2 =>
        obtain ⟨as, q1⟩ := Dp.reads I d _ _ h1 r1
        obtain ⟨bs, q2⟩ := Dp.readsAll I ds _ _ h2 r2
        exact ⟨_, ReadsAll.cons q1 q2⟩
end
end
section
variable {X : Cx}
end
end L2
namespace L2
open PySem PySem.Spec PyProof.Rows
abbrev CellAt (h : Heap) (c : Addr) (v : Option Value) : Prop := h.IsCell c v
def relS (scope sc : Scope) : Scope :=
  { scope with names := scope.names.map fun (n, k) => if (k == .free && sc.kind == .function && sc.names.lookup n == some .cell) then (n, .cell) else (n, k) }
def cloFrom (cells : List (Str × Addr)) : List (Str × NameKind) → List (Str × Addr) → List (Str × Addr)
  | [], acc => acc
  | (n, k) :: r, acc => if k == .free then cloFrom cells r ((n, (cells.lookup n).getD 0) :: acc) else cloFrom cells r acc
theorem closure_loop (env : Env) (f : Str × NameKind → List (Str × Addr) → Sem (ForInStep (List (Str × Addr))))
    (hf : ∀ n k c, f (n, k) c = if k == .free then (do let a ← cellOf env n; pure (.yield ((n, a) :: c))) else pure (.yield c)) :
    ∀ (names : List (Str × NameKind)) (acc : List (Str × Addr)), (∀ y ∈ names, y.2 = .free → ∃ c, env.cells.lookup y.1 = some c) → forIn names acc f = pure (cloFrom env.cells names acc)
  | [], acc, _ => by rw [List.forIn_nil]; rfl
  | (n, k) :: r, acc, h => by
    rw [List.forIn_cons, hf]
    have ih := fun acc => closure_loop env f hf r acc fun y hy => h y (List.mem_cons_of_mem _ hy)
    unfold cloFrom
    by_cases hk : (k == NameKind.free) = true
    · rw [if_pos hk, if_pos hk]
      obtain ⟨c, hc⟩ := h (n, k) List.mem_cons_self (by simpa using hk)
      have e : cellOf env n = pure c := by unfold cellOf; rw [hc]
      rw [e]
      have e2 : (env.cells.lookup n).getD 0 = c := by rw [hc]; rfl
      rw [e2]
      exact ih _
    · rw [if_neg hk, if_neg hk]
      exact ih _
theorem closure_ok {scope : Scope} {env : Env} (h : ∀ y ∈ scope.names, y.2 = .free → ∃ c, env.cells.lookup y.1 = some c) : closureFor scope env = pure (cloFrom env.cells scope.names []) := by
  simp only [closureFor]
  rw [closure_loop env _ (fun n k c => rfl) scope.names [] h]
  rfl
theorem mem_lookup {α : Type} : ∀ {l : List (Str × α)} {n : Str} {c : α}, (n, c) ∈ l → ∃ c', l.lookup n = some c'
  | (k, v) :: r, n, c, h => by
    rw [List.lookup_cons]
    cases hb : n == k with
    | true => exact ⟨_, rfl⟩
    | false =>
      rcases List.mem_cons.mp h with e | h
      · cases e; simp at hb
      · exact mem_lookup h
theorem cloFrom_mem {cells : List (Str × Addr)} : ∀ {names : List (Str × NameKind)} {acc : List (Str × Addr)} {n : Str} {c : Addr}, (n, c) ∈ cloFrom cells names acc → (n, c) ∈ acc ∨ ((n, .free) ∈ names ∧ c = (cells.lookup n).getD 0)
  | [], _, _, _, h => .inl h
  | (m, k) :: r, acc, n, c, h => by
    unfold cloFrom at h
    split at h
    · rename_i hk
      have hk : k = .free := by simpa using hk
      rcases cloFrom_mem h with h | ⟨h1, h2⟩
      · rcases List.mem_cons.mp h with e | h
        · cases e; exact .inr ⟨hk ▸ List.mem_cons_self, rfl⟩
        · exact .inl h
      · exact .inr ⟨List.mem_cons_of_mem _ h1, h2⟩
    · rcases cloFrom_mem h with h | ⟨h1, h2⟩
      · exact .inl h
      · exact .inr ⟨List.mem_cons_of_mem _ h1, h2⟩
theorem cloFrom_acc {cells : List (Str × Addr)} : ∀ {names : List (Str × NameKind)} {acc : List (Str × Addr)} {p : Str × Addr}, p ∈ acc → p ∈ cloFrom cells names acc
  | [], _, _, h => h
  | (m, k) :: r, acc, p, h => by
    unfold cloFrom
    split
    · exact cloFrom_acc (List.mem_cons_of_mem _ h)
    · exact cloFrom_acc h
theorem cloFrom_has {cells : List (Str × Addr)} : ∀ {names : List (Str × NameKind)} {acc : List (Str × Addr)} {n : Str}, (n, .free) ∈ names → (n, (cells.lookup n).getD 0) ∈ cloFrom cells names acc
  | (m, k) :: r, acc, n, h => by
    unfold cloFrom
    rcases List.mem_cons.mp h with e | h
    · cases e
      exact cloFrom_acc List.mem_cons_self
    · split
      · exact cloFrom_has h
      · exact cloFrom_has h
theorem cells_mem : ∀ {names : List (Str × NameKind)} {h : Heap} {acc : List (Str × Addr)} {x : Str} {c : Addr}, (x, c) ∈ cellsFrom h.objs.size names acc →
    (x, c) ∈ acc ∨ ((x, .cell) ∈ names ∧ h.objs.size ≤ c ∧ CellAt (pushCells h names) c none)
  | [], _, _, _, _, h => .inl h
  | (n, k) :: r, h, acc, x, c, hm => by
    unfold cellsFrom at hm
    unfold pushCells
    split at hm
    · rename_i hk
      rw [if_pos hk]
      have hk : k = .cell := by simpa using hk
      rw [← Heap.size_push h { cls := .type "cell", data := .cell none }] at hm
      rcases cells_mem hm with hm | ⟨h1, h2, h3⟩
      · rcases List.mem_cons.mp hm with e | hm
        · cases e
          exact .inr ⟨hk ▸ List.mem_cons_self, Nat.le_refl _, _, pushCells_keeps r _ _ _ (Heap.get?_push_size _ rfl), rfl⟩
        · exact .inl hm
      · rw [Heap.size_push] at h2
        exact .inr ⟨List.mem_cons_of_mem _ h1, Nat.le_of_succ_le h2, h3⟩
    · rename_i hk
      rw [if_neg hk]
      rcases cells_mem hm with hm | ⟨h1, h2, h3⟩
      · exact .inl hm
      · exact .inr ⟨List.mem_cons_of_mem _ h1, h2, h3⟩
theorem cells_acc : ∀ {names : List (Str × NameKind)} {n : Nat} {acc : List (Str × Addr)} {p : Str × Addr}, p ∈ acc → p ∈ cellsFrom n names acc
  | [], _, _, _, h => h
  | (m, k) :: r, n, acc, p, h => by
    unfold cellsFrom
    split
    · exact cells_acc (List.mem_cons_of_mem _ h)
    · exact cells_acc h
theorem cells_has : ∀ {names : List (Str × NameKind)} {n : Nat} {acc : List (Str × Addr)} {x : Str}, (x, .cell) ∈ names → ∃ c, (x, c) ∈ cellsFrom n names acc
  | (m, k) :: r, n, acc, x, h => by
    unfold cellsFrom
    rcases List.mem_cons.mp h with e | h
    · cases e
      exact ⟨n, cells_acc List.mem_cons_self⟩
    · split
      · exact cells_has h
      · exact cells_has h
theorem cells_inj : ∀ {names : List (Str × NameKind)} {h : Heap} {acc : List (Str × Addr)} {x y : Str} {c : Addr}, (∀ p ∈ acc, p.2 < h.objs.size) → (∀ x y c, (x, c) ∈ acc → (y, c) ∈ acc → x = y) →
    (x, c) ∈ cellsFrom h.objs.size names acc → (y, c) ∈ cellsFrom h.objs.size names acc → x = y
  | [], _, _, _, _, _, _, hi, h1, h2 => hi _ _ _ h1 h2
  | (n, k) :: r, h, acc, x, y, c, hl, hi, h1, h2 => by
    unfold cellsFrom at h1 h2
    split at h1
    · rename_i hk
      rw [if_pos hk] at h2
      rw [← Heap.size_push h { cls := .type "cell", data := .cell none }] at h1 h2
      refine cells_inj (h := h.push _) (fun p hp => ?_) (fun x y c a b => ?_) h1 h2
      · rw [Heap.size_push]
        rcases List.mem_cons.mp hp with rfl | hp
        · exact Nat.lt_succ_self _
        · exact Nat.lt_succ_of_lt (hl p hp)
      · rcases List.mem_cons.mp a with e | a <;> rcases List.mem_cons.mp b with e' | b
        · cases e; cases e'; rfl
        · cases e; exact absurd (hl _ b) (Nat.lt_irrefl _)
        · cases e'; exact absurd (hl _ a) (Nat.lt_irrefl _)
        · exact hi _ _ _ a b
    · rename_i hk
      rw [if_neg hk] at h2
      exact cells_inj hl hi h1 h2
theorem newEnv_comp {M : Model} {A : Around} {E : Value → Shared → Prop} {s : Shared} {scope : Scope} {globals : Addr} {closure : List (Str × Addr)} {qual : Str} {func : Option Addr} {code : Value} {around : Env} {builtins : Addr} {Q : Env → Shared → Prop}
    (h : Q (newEnv scope s.heap.objs.size globals (cellsFrom (s.heap.objs.size + 1) scope.names closure) qual func code (some around) builtins)
      { s with heap := pushCells (s.heap.push { cls := .type "dict", data := .dict #[] }) scope.names }) :
    wpAny M A (newFunctionEnv scope globals closure [] qual func code (some around) builtins) Q E s := by
  simp only [newFunctionEnv, Option.isSome_some, if_true]
  refine wpAny_bind (wpAny_alloc ?_)
  refine wpAny_bind (wpAny_layCells _ (fun n k c => rfl) scope.names closure _ _ ?_)
  rw [show ({ s with heap := s.heap.push { cls := .type "dict", data := .dict #[] } } : Shared).heap.objs.size = s.heap.objs.size + 1 from Heap.size_push ..]
  rw [List.forIn_nil]
  exact wpAny_bind (wpAny_pure (wpAny_pure h))
theorem lookup_relS {sc : Scope} : ∀ {names : List (Str × NameKind)} {x : Str} {k : NameKind},
    (names.map fun (n, k) => if (k == NameKind.free && sc.kind == .function && sc.names.lookup n == some .cell) then (n, NameKind.cell) else (n, k)).lookup x = some k →
    ∃ k', names.lookup x = some k' ∧ (k = k' ∨ (k' = .free ∧ k = .cell))
  | [], _, _, h => by simp at h
  | (n, k₀) :: r, x, k, h => by
    have ih := @lookup_relS sc r x k
    have h' : List.lookup x ((if (k₀ == NameKind.free && sc.kind == .function && sc.names.lookup n == some .cell) = true then (n, NameKind.cell) else (n, k₀)) :: (r.map _)) = some k := h
    cases hx : x == n with
    | true =>
      simp only [List.lookup_cons, hx]
      by_cases hc : (k₀ == NameKind.free && sc.kind == .function && sc.names.lookup n == some .cell) = true
      · rw [if_pos hc] at h'
        simp only [List.lookup_cons, hx] at h'
        cases h'
        simp only [Bool.and_eq_true, beq_iff_eq] at hc
        exact ⟨k₀, rfl, .inr ⟨hc.1.1, rfl⟩⟩
      · rw [if_neg hc] at h'
        simp only [List.lookup_cons, hx] at h'
        cases h'
        exact ⟨_, rfl, .inl rfl⟩
    | false =>
      simp only [List.lookup_cons, hx]
      by_cases hc : (k₀ == NameKind.free && sc.kind == .function && sc.names.lookup n == some .cell) = true
      · rw [if_pos hc] at h'
        simp only [List.lookup_cons, hx] at h'
        exact ih h'
      · rw [if_neg hc] at h'
        simp only [List.lookup_cons, hx] at h'
        exact ih h'
/-- the names of a comprehension's block: its own (with their places in N), or captured -/
structure BlkOk (N : List Str) (sc scope : Scope) (own : List (Str × Nat)) : Prop where
  kind : scope.kind = .function
  uniq : ∀ y ∈ scope.names, scope.names.lookup y.1 = some y.2
  ix : ∀ p ∈ own, N[p.2]? = some p.1
  free : ∀ y ∈ scope.names, y.2 = .free → sc.names.lookup y.1 = some .cell ∨ sc.names.lookup y.1 = some .free
  own : ∀ y ∈ scope.names, y.2 = .local ∨ y.2 = .cell → y.1 ∈ own.map (·.1) ∨ y.1 ∉ N
def wipe (σ : St) : List Nat → St
  | [] => σ
  | v :: vs => (wipe σ vs).set v none
theorem wipe_length (σ : St) : ∀ vs : List Nat, (wipe σ vs).length = σ.length
  | [] => rfl
  | v :: vs => by unfold wipe; rw [List.length_set, wipe_length σ vs]
theorem wipe_some {σ : St} {i : Nat} {x : V} : ∀ {vs : List Nat}, (wipe σ vs)[i]? = some (some x) → σ[i]? = some (some x) ∧ i ∉ vs
  | [], h => ⟨h, by simp⟩
  | v :: vs, h => by
    unfold wipe at h
    by_cases hi : v = i
    · subst hi
      by_cases hv : v < (wipe σ vs).length
      · rw [List.getElem?_set_self hv] at h; cases h
      · rw [List.getElem?_eq_none (by simpa using hv)] at h; cases h
    · rw [List.getElem?_set_ne hi] at h
      obtain ⟨h1, h2⟩ := wipe_some h
      exact ⟨h1, by simp only [List.mem_cons, not_or]; exact ⟨fun e => hi e.symm, h2⟩⟩
abbrev Cx.blk (X : Cx) (s : Shared) (H : Hp) (scope : Scope) (cenv : Env) (fp : List Addr) : Cx := { X with s_0 := s, H_0 := H, env := cenv, outer := X.stack, ex := fp, fn := fun x => scope.names.lookup x == some .cell, pn := [], xe := fun _ _ => False }
section
variable {X : Cx} {pins : List (Addr × Obj)} {σ : St} {H : Hp} {s : Shared}
theorem block_start {scope : Scope} {own : List (Str × Nat)} {fp : List Addr} (I : Inv X pins σ H s) (ok : BlkOk X.N X.env.scope scope own) (hN : X.N.Nodup) (hfp : ∀ b ∈ fp, FpOk X pins H b ∧ b < s.heap.objs.size) :
    Inv (X.blk s H scope (compEnvC scope (cellsFrom (s.heap.objs.size + 1) scope.names (cloFrom X.env.cells scope.names [])) s.heap.objs.size X.env) fp) [] (wipe σ (own.map (·.2))) H { s with heap := pushCells (s.heap.push { cls := .type "dict", data := .dict #[] }) scope.names } := by
  have hfree : ∀ y ∈ scope.names, y.2 = .free → ∃ c, X.env.cells.lookup y.1 = some c := fun y hy e => by
    rcases ok.free y hy e with k | k
    · exact I.ok.has _ (.inl k)
    · exact I.ok.has _ (.inr k)
  generalize hcenv : compEnvC scope (cellsFrom (s.heap.objs.size + 1) scope.names (cloFrom X.env.cells scope.names [])) s.heap.objs.size X.env = cenv
  have kp : ∀ b o, s.heap.get? b = some o → (pushCells (s.heap.push { cls := .type "dict", data := .dict #[] }) scope.names).get? b = some o := fun b o e => pushCells_keeps _ _ _ _ (Heap.get?_push_of_some _ e)
  have hL : cenv.locals = s.heap.objs.size := by rw [← hcenv]; rfl
  have hcl : cenv.cells = cellsFrom (s.heap.objs.size + 1) scope.names (cloFrom X.env.cells scope.names []) := by rw [← hcenv]; rfl
  have hsc : cenv.scope = relS scope X.env.scope := by rw [← hcenv]; rfl
  rw [← Heap.size_push s.heap { cls := .type "dict", data := .dict #[] }] at hcl
  have cm : ∀ {y c}, (y, c) ∈ cloFrom X.env.cells scope.names [] → X.env.cells.lookup y = some c ∧ c < s.heap.objs.size := fun {y c} hm => by
    rcases cloFrom_mem hm with hm | ⟨h1, rfl⟩
    · cases hm
    · obtain ⟨c, hc⟩ := hfree _ h1 rfl
      rw [hc]
      obtain ⟨w, z⟩ := I.cell _ _ hc
      exact ⟨rfl, z.lt⟩
  have mem : ∀ {y c}, cenv.cells.lookup y = some c → (X.env.cells.lookup y = some c ∧ c < s.heap.objs.size) ∨ (s.heap.objs.size + 1 ≤ c ∧ CellAt (pushCells (s.heap.push { cls := .type "dict", data := .dict #[] }) scope.names) c none) := fun {y c} e => by
    rw [hcl] at e
    rcases cells_mem (PySem.mem_of_lookup e) with hm | ⟨_, h2, h3⟩
    · exact .inl (cm hm)
    · rw [Heap.size_push] at h2; exact .inr ⟨h2, h3⟩
  have look : ∀ {y}, scope.names.lookup y = some .free → ∃ c, cenv.cells.lookup y = some c ∧ X.env.cells.lookup y = some c := fun {y} hl => by
    have hy : (y, NameKind.free) ∈ scope.names := PySem.mem_of_lookup hl
    obtain ⟨c', e'⟩ := mem_lookup (cells_acc (names := scope.names) (n := (s.heap.push { cls := .type "dict", data := .dict #[] }).objs.size) (cloFrom_has (cells := X.env.cells) (acc := []) hy))
    rw [← hcl] at e'
    refine ⟨c', e', ?_⟩
    rw [hcl] at e'
    rcases cells_mem (PySem.mem_of_lookup e') with hm | ⟨h1, _, _⟩
    · exact (cm hm).1
    · have := ok.uniq _ h1
      rw [hl] at this; cases this
  have okB : (X.blk s H scope cenv fp).Ok := by
    refine ⟨I.ok.mod, by show cenv.scope.kind = _; rw [hsc]; exact ok.kind, by show cenv.globals = _; rw [← hcenv]; exact I.ok.glob, by show cenv.builtins = _; rw [← hcenv]; exact I.ok.blt, by show s.heap.objs.size ≤ cenv.locals; rw [hL]; exact Nat.le_refl _,
      fun y z c e1 e2 => ?_, fun y hy => ?_, fun y c z e => ?_, I.ok.hd, I.ok.frames, .inl rfl, fun b hb => ⟨?_, fun y c e z => ?_⟩, I.bs, Nat.le_trans I.ok.bsz I.sz, fun b o e hb => ?_, fun b hb z => ?_, I.stack, I.stkFree⟩
    · have e1 : cenv.cells.lookup y = some c := e1
      have e2 : cenv.cells.lookup z = some c := e2
      rw [hcl] at e1 e2
      refine cells_inj (fun p hp => ?_) (fun y z c a b => I.ok.inj y z c (cm a).1 (cm b).1) (PySem.mem_of_lookup e1) (PySem.mem_of_lookup e2)
      rw [Heap.size_push]
      exact Nat.lt_succ_of_lt (cm (y := p.1) (c := p.2) hp).2
    · show ∃ c, cenv.cells.lookup y = some c
      have key : ∀ k, cenv.kindOf y = some k → (k = .cell ∨ k = .free) → ∃ c, cenv.cells.lookup y = some c := fun k hk hk' => by
        unfold Env.kindOf at hk
        rw [hsc] at hk
        obtain ⟨k', e, r⟩ := lookup_relS hk
        have : k' = .cell ∨ k' = .free := by
          rcases r with rfl | ⟨rfl, _⟩
          · exact hk'
          · exact .inr rfl
        rcases this with rfl | rfl
        · obtain ⟨c, hm⟩ := cells_has (n := (s.heap.push { cls := .type "dict", data := .dict #[] }).objs.size) (acc := cloFrom X.env.cells scope.names []) (PySem.mem_of_lookup e)
          obtain ⟨c', e'⟩ := mem_lookup hm
          exact ⟨c', by rw [hcl]; exact e'⟩
        · obtain ⟨c, h1, _⟩ := look e
          exact ⟨c, h1⟩
      rcases hy with hy | hy
      · exact key _ hy (.inl rfl)
      · exact key _ hy (.inr rfl)
    · have z : (scope.names.lookup y == some NameKind.cell) = true := z
      have z : scope.names.lookup y = some .cell := by simpa using z
      have e : cenv.cells.lookup y = some c := e
      rw [hcl] at e
      rcases cells_mem (PySem.mem_of_lookup e) with hm | ⟨_, h2, _⟩
      · rcases cloFrom_mem hm with hm | ⟨h1, _⟩
        · cases hm
        · have q := ok.uniq _ h1
          rw [z] at q; cases q
      · rw [Heap.size_push] at h2
        exact Nat.le_of_succ_le h2
    · show b ≠ cenv.locals
      rw [hL]; exact Nat.ne_of_lt (hfp b hb).2
    · have e : cenv.cells.lookup y = some c := e
      rcases mem e with ⟨h1, _⟩ | ⟨h1, _⟩
      · exact (hfp b hb).1.2.2.2.2.1 y c h1 z
      · have h2 : s.heap.objs.size + 1 ≤ b := by rw [← z]; exact h1
        exact absurd (Nat.lt_of_lt_of_le (hfp b hb).2 (Nat.le_of_succ_le h2)) (Nat.lt_irrefl _)
    · rcases (hfp b hb).1.2.2.2.1 with z | z
      · exact I.ok.noex b o e z
      · exact absurd (Nat.lt_of_lt_of_le (Heap.lt_size e) (Nat.le_trans I.ok.bsz z)) (Nat.lt_irrefl _)
    · rcases List.mem_cons.mp (I.stkSub b z) with z | z
      · exact (hfp b hb).1.2.1 z
      · exact (hfp b hb).1.2.2.1 z
  refine ⟨okB, rfl, I.bare, Un.kept kp, ⟨fun _ => none, ?_, fun i y av e1 e2 e3 => ?_⟩, fun y c e => ?_, ?_, fun y c e => ?_, fun p hp => ?_, I.hok.kept kp, by rw [wipe_length]; exact I.len⟩
  · show Heap.Ns _ cenv.locals _
    rw [hL]
    exact Heap.Ns.keeps (Heap.Ns.new ..) fun b o e => pushCells_keeps _ _ _ _ e
  · obtain ⟨e2, hne⟩ := wipe_some e2
    have hfr : scope.names.lookup y = some .free ∧ (cenv.kindOf y = some .cell ∨ cenv.kindOf y = some .free) := by
      have key : ∀ k, cenv.scope.names.lookup y = some k → k = .local ∨ k = .cell ∨ k = .free → scope.names.lookup y = some .free ∧ (cenv.kindOf y = some .cell ∨ cenv.kindOf y = some .free) := fun k hk hk' => by
        have hk0 := hk
        rw [hsc] at hk
        obtain ⟨k', e, r⟩ := lookup_relS hk
        have no : ¬ (k' = .local ∨ k' = .cell) := fun hh => by
          rcases ok.own _ (PySem.mem_of_lookup e) hh with e' | e'
          · obtain ⟨p, hp, hpy⟩ := List.mem_map.mp e'
            have e3 := ok.ix p hp
            have : p.1 = y := hpy
            rw [this] at e3
            exact hne (List.mem_map.mpr ⟨p, hp, nodup_ix hN e3 e1⟩)
          · exact e' (List.mem_of_getElem? e1)
        rcases r with rfl | ⟨rfl, rfl⟩
        · rcases hk' with rfl | rfl | rfl
          · exact absurd (.inl rfl) no
          · exact absurd (.inr rfl) no
          · exact ⟨e, .inr hk0⟩
        · exact ⟨e, .inl hk0⟩
      have e3 : Vis cenv.scope y := e3
      rcases e3 with e3 | e3 | e3
      · exact key _ e3 (.inl rfl)
      · exact key _ e3 (.inr (.inl rfl))
      · exact key _ e3 (.inr (.inr rfl))
    obtain ⟨m, hn, hl⟩ := I.loc
    have hvis : Vis X.env.scope y := (ok.free _ (PySem.mem_of_lookup hfr.1) rfl).elim (fun k => .inr (.inl k)) (fun k => .inr (.inr k))
    obtain ⟨w, r, q⟩ := hl i y av e1 e2 hvis
    refine ⟨w, r, .inr ⟨hfr.2, ?_⟩⟩
    obtain ⟨c, h1, h2⟩ := look hfr.1
    rcases q with ⟨k, _⟩ | ⟨_, c', e', z⟩
    · have k : X.env.scope.names.lookup y = some .local := k
      rcases ok.free _ (PySem.mem_of_lookup hfr.1) rfl with k' | k' <;> rw [show X.env.scope.names.lookup y = _ from k'] at k <;> cases k
    · rw [h2] at e'; cases e'
      exact ⟨c, h1, z.keeps kp⟩
  · have e : cenv.cells.lookup y = some c := e
    rcases mem e with ⟨h1, _⟩ | ⟨_, z⟩
    · obtain ⟨w, z⟩ := I.cell y c h1
      exact ⟨w, z.keeps kp⟩
    · exact ⟨_, z⟩
  · show H cenv.locals = none
    rw [hL]; exact I.hok.fresh (Nat.le_refl _)
  · have e : cenv.cells.lookup y = some c := e
    rcases mem e with ⟨h1, _⟩ | ⟨h1, _⟩
    · exact I.freeC y c h1
    · exact I.hok.fresh (Nat.le_of_succ_le h1)
  · exact absurd (show p ∈ ([] : List (Addr × Obj)) ++ [] from hp) (by simp)
theorem app_ok {E : Value → Shared → Prop} {D : Addr} {xs : List V} {y : V} {v : Value} {Q : Value → Shared → Prop} (I : Inv X pins σ H s) (hD : H D = some (.lst xs)) (hz : xs.length < sizeLine) (r : RelV y v)
    (h : ∀ s', Inv X pins σ (upd H D (.lst (xs ++ [y]))) s' → Q .none s') : wpAny (model X.prog X.w) X.A (call (.builtin "list.append") [.ref D, v]) Q E s := by
  obtain ⟨hz', its, n, ri, e⟩ := I.hok D _ hD
  have hl := ri.length
  refine append_at (hsz := by rw [List.size_toArray]; omega) e fun h' sb ho' => ?_
  refine h { s with heap := h' } (I.write (t' := s.toks) (by rw [hD]; trivial) (.inl rfl) (fun b u hb q => (sb.2 b hb).trans q) ⟨_, ho'⟩ ⟨by rw [List.length_append]; exact hz, its ++ [v], n + 1, ri.append (.cons r .nil), ?_⟩)
  rw [ho']
  simp
def PTs (X : Cx) (ifs : List Expr) (t : TT) : Prop :=
  ∀ (pins : List (Addr × Obj)) (s : Shared) (σ : St) (H : Hp) (Q : Bool → Hp → Prop), Inv X pins σ H s → t σ H Q →
    wpAny (model X.prog X.w) X.A (forIn ifs true fun c r => if r = true then do let ok ← isTrue c X.env (eval c X.env); pure (ForInStep.yield ok) else pure (ForInStep.yield r)) (TP X pins σ Q) X.xe s
def tYes : TT := fun _ H Q => Q true H
theorem pts_nil : PTs X [] tYes := fun _ _ _ H _ I h => wpAny_tests_nil ⟨H, I, h⟩
end
theorem thnF {α : Type} {t : Sem α} {Q Q' : α → Shared → Prop} {M : Model} {A : Around} {E : Value → Shared → Prop} {s : Shared} (h : wpAny M A t Q (fun _ _ => False) s) (hQ : ∀ a s, Q a s → Q' a s) : wpAny M A t Q' E s := wpAny_mono h hQ fun _ _ z => False.elim z
theorem compLoop_any {prog : Program} {w : World} {A : Around} {R : Result → Shared → Prop} {s : Shared} {elt target iter : Expr} {ifs : List Expr} {scope : Scope} {pos : Pos} {it acc : Value} {env : Env} (I : Nat → Shared → Prop)
    (turn : ∀ n s, I n s → wpAny (model prog w) A (pyNext it) (fun r s₁ => match r with
      | none => R (.ok .next) s₁
      | some v => wpAny (model prog w) A (letOwnedTupleGo target it v) (fun _ s₁' => wpAny (model prog w) A (assign target env v) (fun _ s₂ =>
          wpAny (model prog w) A (forIn ifs true fun c r => if r = true then do let ok ← isTrue c env (eval c env); pure (ForInStep.yield ok) else pure (ForInStep.yield r)) (fun ok s₃ =>
            if ok = true then wpAny (model prog w) A (eval elt env) (fun x s₄ =>
              wpAny (model prog w) A (call (.builtin "list.append") [acc, x]) (fun _ s₅ => ∃ m, m < n ∧ I m s₅) (notedBy (model prog w) A env fun e s' => R (.error e) s') s₄) (notedBy (model prog w) A env fun e s' => R (.error e) s') s₃
            else ∃ m, m < n ∧ I m s₃) (notedBy (model prog w) A env fun e s' => R (.error e) s') s₂) (notedBy (model prog w) A env fun e s' => R (.error e) s') s₁') (notedBy (model prog w) A env fun e s' => R (.error e) s') s₁) (notedBy (model prog w) A env fun e s' => R (.error e) s') s)
    (n : Nat) (h : I n s) :
    codeAny (model prog w) A (.compLoop (.ListComp elt [⟨target, iter, ifs, 0⟩] scope pos) 0 it acc env) R s := by
  refine codeAny_loop rfl I (fun n s hI => ?_) n h
  show wpAny _ A ((compTurn (.ListComp elt [⟨target, iter, ifs, 0⟩] scope pos) 0 it acc env).onRaise (fun x => do noteFrame x env; theTreesLotGoes x)) _ _ s
  refine wpAny_noted ?_
  rw [compTurn_list]
  refine wpAny_bind (wpAny_standAt (wpAny_bind (wpAny_mono (turn n s hI) (fun r s₁ h₁ => ?_) fun _ _ h' => h')))
  cases r with
  | none => exact wpAny_pure h₁
  | some v =>
    refine wpAny_bind (wpAny_mono h₁ (fun _ s₁' h₁' => ?_) fun _ _ h' => h')
    refine wpAny_bind (wpAny_mono h₁' (fun _ s₂ h₂ => wpAny_bind (wpAny_mono h₂ (fun ok s₃ h₃ => ?_) fun _ _ h' => h')) fun _ _ h' => h')
    cases ok with
    | false => exact wpAny_pure ⟨rfl, h₃⟩
    | true =>
      exact wpAny_bind (wpAny_bind (wpAny_mono h₃ (fun x s₄ h₄ => wpAny_bind (wpAny_mono h₄ (fun _ s₅ h₅ => wpAny_pure (wpAny_pure ⟨rfl, h₅⟩)) fun _ _ h' => h')) fun _ _ h' => h'))
section
variable {X : Cx}
def tLc (wi : TI) (g : TG) (tt : TT) (te : TE) (vs : List Nat) : TE := fun σ H Q => wi σ H fun J H1 => ∀ D, H1 D = none → ∃ W : Nat → Nat → Hp → Prop, (∃ m, W 0 m (upd H1 D (.lst []))) ∧ ∀ i m H, W i m H →
  (J.stop i H ∧ Q (.ref D) H) ∨ (J.go i H ∧ ∃ Nx : Hp → Prop, (∀ H', Nx H' → ∃ m', m' < m ∧ W (i + 1) m' H') ∧ ∀ x H', J.yld i H x H' → g x (wipe σ vs) H' fun σ2 H2 => wipe σ2 vs = wipe σ vs ∧ tt σ2 H2 fun b H3 =>
    if b = true then te σ2 H3 fun y H4 => ∃ acc, H4 D = some (.lst acc) ∧ acc.length < sizeLine ∧ Nx (upd H4 D (.lst (acc ++ [y]))) else Nx H3)
theorem lc_core {pins : List (Addr × Obj)} {s : Shared} {σ : St} {H : Hp} {Q : VK} {elt tg iter : Expr} {ifs : List Expr} {scope : Scope} {own : List (Str × Nat)} {pos pos' : Pos} {wi : TI} {g : TG} {tt : TT} {te : TE} {use : Option (Value → Sem Unit)} {Qf : Value → Shared → Prop}
    (hc : X.calm = true) (hN : X.N.Nodup) (I : Inv X pins σ H s) (hi : PI X tg iter wi) (ok : BlkOk X.N X.env.scope scope own)
    (hg : ∀ (s : Shared) (H : Hp) (C : Addr) (cl : List (Str × Addr)) (fp : List Addr), PG (X.blk s H scope (compEnvC scope cl C X.env) fp) tg g) (ht : ∀ (s : Shared) (H : Hp) (C : Addr) (cl : List (Str × Addr)) (fp : List Addr), PTs (X.blk s H scope (compEnvC scope cl C X.env) fp) ifs tt)
    (he : ∀ (s : Shared) (H : Hp) (C : Addr) (cl : List (Str × Addr)) (fp : List Addr), PE (X.blk s H scope (compEnvC scope cl C X.env) fp) elt te) (hs : ∀ x, foldedSetIterable iter X.env x = pure x)
    (h : tLc wi g tt te (own.map (·.2)) σ H Q)
    (hRR : ∀ D C s' m H', Inv X pins σ H' s' → Q (.ref D) H' → s'.heap.Ns C m → FpOk X pins H' C → compPost (model X.prog X.w) X.A X.xe use Qf (.ref D) C (.ok .next) s') :
    wpAny (model X.prog X.w) X.A (comprehension (.ListComp elt [⟨tg, iter, ifs, 0⟩] scope pos) scope X.env pos' (newList []) false (eval iter X.env) use) Qf X.xe s := by
  have hfree : ∀ y ∈ scope.names, y.2 = .free → ∃ c, X.env.cells.lookup y.1 = some c := fun y hy e => by
    rcases ok.free y hy e with k | k
    · exact I.ok.has _ (.inl k)
    · exact I.ok.has _ (.inr k)
  refine wpAny_comprehension_free (use := use) rfl hs (closure_ok hfree) ok.kind (fun y hy e => by rw [ok.uniq y hy, e])
    (thn (hi pins s σ H _ I h) fun xv s1 hx => thn hx fun itv s2 h2 => ?_)
  obtain ⟨it, fp, tn, J, H2, e, I2, T, st2, f2, q⟩ := h2
  subst e
  refine wpAny_newObj_type (newEnv_comp ?_) (by show 0 ≤ sizeLine; decide)
  generalize hD : s2.heap.objs.size = D
  have hDn : H2 D = none := I2.hok.fresh (Nat.le_of_eq hD)
  obtain ⟨W, ⟨m0, w0⟩, turn⟩ := q D hDn
  -- the new list
  generalize hs3 : ({ s2 with heap := s2.heap.push { cls := .type "list", data := .seq ([] : List Value).toArray } } : Shared) = s3
  have I3 : Inv X pins σ (upd H2 D (.lst [])) s3 := by
    rw [← hs3]
    refine I2.laid (t' := s2.toks) (fun b o e => Heap.get?_push_of_some _ e) (Nat.le_of_eq hD) ⟨Nat.zero_le _, [], 0, .nil, ?_⟩
    rw [← hD]
    exact Heap.get?_push_size _ rfl
  have h3 : s3.heap = s2.heap.push { cls := .type "list", data := .seq ([] : List Value).toArray } := by rw [← hs3]
  have sz : ∀ b ∈ fp, b < s2.heap.objs.size := fun b hb => by
    obtain ⟨o, e, _⟩ := T.obj _ _ st2 b hb
    exact Heap.lt_size e
  have f3 : ∀ b ∈ fp, FpOk X pins (upd H2 D (.lst [])) b ∧ b < s3.heap.objs.size := fun b hb => by
    have hlt := sz b hb
    refine ⟨⟨?_, (f2 b hb).2⟩, by rw [h3, Heap.size_push]; exact Nat.lt_succ_of_lt hlt⟩
    rw [upd_ne (by rw [← hD]; exact Nat.ne_of_lt hlt)]
    exact (f2 b hb).1
  have st3 : tn 0 s3.heap := T.keep _ _ _ st2 fun b _ o e => by rw [h3]; exact Heap.get?_push_of_some _ e
  have I4 := block_start I3 ok hN f3
  have pg := hg s3 (upd H2 D (.lst [])) s3.heap.objs.size (cellsFrom (s3.heap.objs.size + 1) scope.names (cloFrom X.env.cells scope.names [])) fp
  have pt := ht s3 (upd H2 D (.lst [])) s3.heap.objs.size (cellsFrom (s3.heap.objs.size + 1) scope.names (cloFrom X.env.cells scope.names [])) fp
  have pe := he s3 (upd H2 D (.lst [])) s3.heap.objs.size (cellsFrom (s3.heap.objs.size + 1) scope.names (cloFrom X.env.cells scope.names [])) fp
  show codeAny _ _ (.compStart (.ListComp elt [⟨tg, iter, ifs, 0⟩] scope pos) 0 (.ref it) (.ref D) (compEnvC scope (cellsFrom (s3.heap.objs.size + 1) scope.names (cloFrom X.env.cells scope.names [])) s3.heap.objs.size X.env)) (compPost (model X.prog X.w) X.A X.xe use Qf (.ref D) s3.heap.objs.size) { s3 with heap := pushCells (s3.heap.push { cls := .type "dict", data := .dict #[] }) scope.names }
  have nfp : ∀ b ∈ fp, (upd H2 D (.lst [])) b = none := fun b hb => (f3 b hb).1.1
  generalize hce : compEnvC scope (cellsFrom (s3.heap.objs.size + 1) scope.names (cloFrom X.env.cells scope.names [])) s3.heap.objs.size X.env = ce at I4 pg pt pe ⊢
  have cL : ce.locals = s3.heap.objs.size := by subst hce; rfl
  generalize hH3 : upd H2 D (.lst []) = H3 at I3 I4 pg pt pe w0 nfp f3
  generalize hs4 : ({ s3 with heap := pushCells (s3.heap.push { cls := .type "dict", data := .dict #[] }) scope.names } : Shared) = s4 at I4 ⊢
  have st4 : tn 0 s4.heap := T.keep _ _ _ st3 fun b _ o e => by rw [← hs4]; exact pushCells_keeps _ _ _ _ (Heap.get?_push_of_some _ e)
  have stat : ∀ {σ' : St} {H' : Hp} {s' : Shared}, Inv (X.blk s3 H3 scope ce fp) [] σ' H' s' → (∀ b ∈ fp, H' b = none) → ∀ b ∈ fp, FpOk (X.blk s3 H3 scope ce fp) [] H' b := fun {σ' H' s'} I' hn b hb =>
    ⟨hn b hb, (I'.ok.exf b hb).1, I'.ok.exfs b hb, .inl hb, fun x c e => (I'.ok.exf b hb).2 x c e, fun p hp => absurd (show p ∈ ([] : List (Addr × Obj)) ++ [] from hp) (by simp)⟩
  have loop : codeAny (model X.prog X.w) X.A (.compLoop (.ListComp elt [⟨tg, iter, ifs, 0⟩] scope pos) 0 (.ref it) (.ref D) ce) (compPost (model X.prog X.w) X.A X.xe use Qf (.ref D) s3.heap.objs.size) s4 := by
    refine compLoop_any (fun n s' => ∃ i H', Inv (X.blk s3 H3 scope ce fp) [] (wipe σ (own.map (·.2))) H' s' ∧ tn i s'.heap ∧ (∀ b ∈ fp, H' b = none) ∧ W i n H') ?_ m0 ⟨0, H3, I4, st4, nfp, w0⟩
    rintro n s5 ⟨i, H5, I5, st5, n5, w5⟩
    rcases turn i n H5 w5 with ⟨stop, qq⟩ | ⟨go, Nx, hNx, step⟩
    · have td := T.done (X.blk s3 H3 scope ce fp) rfl rfl rfl hc i [] s5 _ H5 (fun _ _ => False) I5 (stat I5 n5) st5 stop
      refine thnF td fun r s6 ⟨hr, I6⟩ => ?_
      subst hr
      -- back in the def's context
      have I7 : Inv X pins σ H5 s6 := I3.call' (ch := fp) I6.os I6.base I6.hok I6.bare fun b hb => ⟨(f3 b hb).1.2.2.2.1, (f3 b hb).1.2.1, (f3 b hb).1.2.2.2.2.1, (f3 b hb).1.2.2.2.2.2⟩
      have nC : H5 s3.heap.objs.size = none := by
        have z : H5 ce.locals = none := I6.free
        rw [cL] at z
        exact z
      obtain ⟨m, hn, _⟩ := I6.loc
      have hn : s6.heap.Ns ce.locals m := hn
      rw [cL] at hn
      exact hRR D s3.heap.objs.size s6 m H5 I7 qq hn (I3.fpOk (Nat.le_refl _) nC)
    · have ti := T.item (X.blk s3 H3 scope ce fp) rfl rfl rfl hc i [] s5 _ H5 (fun _ _ => False) I5 (stat I5 n5) st5 go
      refine thnF ti fun r s6 ⟨u, hr, h6⟩ => ?_
      subst hr
      refine thnF h6 fun _ s7 ⟨x, H7, I7, r7, y7, st7, n7⟩ => ?_
      have I7' := I7.pinned (stat I7 n7) (T.obj _ _ st7)
      refine thnF (pg _ s7 _ H7 x u _ I7' r7 (step x H7 y7)) fun _ s8 ⟨σ8, H8, I8, hw8, q8⟩ => ?_
      refine thnF (pt _ s8 σ8 H8 _ I8 q8) fun b s9 ⟨H9, I9, q9⟩ => ?_
      -- the turn's end
      have fin : ∀ {s' : Shared} {H' : Hp}, Inv (X.blk s3 H3 scope ce fp) ([] ++ pinsAt fp s7.heap) σ8 H' s' → Nx H' → ∃ m, m < n ∧ ∃ i H', Inv (X.blk s3 H3 scope ce fp) [] (wipe σ (own.map (·.2))) H' s' ∧ tn i s'.heap ∧ (∀ b ∈ fp, H' b = none) ∧ W i m H' := fun {s' H'} I' nx => by
        obtain ⟨m', hm, w'⟩ := hNx H' nx
        have pin' : ∀ b ∈ fp, ∀ o, s7.heap.get? b = some o → s'.heap.get? b = some o ∧ H' b = none := fun b hb o e =>
          let z := I'.pin (b, o) (List.mem_append_right _ (List.mem_append_right _ (mem_pinsAt hb e)))
          ⟨z.1, z.2.1⟩
        have hl : (wipe σ (own.map (·.2))).length = σ8.length := by rw [← hw8, wipe_length]
        refine ⟨m', hm, i + 1, H', (I'.unpinned (pins := [])).weak hl (fun j v e => ?_), T.keep _ _ _ st7 fun b hb o e => (pin' b hb o e).1, fun b hb => ?_, w'⟩
        · rw [← hw8] at e
          exact (wipe_some e).1
        · obtain ⟨o, e, _⟩ := T.obj _ _ st7 b hb
          exact (pin' b hb o e).2
      cases b with
      | false =>
        simp only [Bool.false_eq_true, if_false] at q9 ⊢
        exact fin I9 q9
      | true =>
        simp only [if_true] at q9 ⊢
        refine thnF (pe _ s9 σ8 H9 _ I9 q9) fun z s10 ⟨yv, H10, I10, r10, acc, hD10, hz10, nx⟩ => ?_
        exact app_ok (X := X.blk s3 H3 scope ce fp) I10 hD10 hz10 r10 fun s11 I11 => fin I11 nx
  exact codeAny_compStart_list loop (T.self X.A 0 _ _ _ st4 loop)
theorem pe_lc {elt tg iter : Expr} {ifs : List Expr} {scope : Scope} {own : List (Str × Nat)} {pos : Pos} {wi : TI} {g : TG} {tt : TT} {te : TE} (hc : X.calm = true) (hN : X.N.Nodup) (hi : PI X tg iter wi) (ok : BlkOk X.N X.env.scope scope own)
    (hg : ∀ (s : Shared) (H : Hp) (C : Addr) (cl : List (Str × Addr)) (fp : List Addr), PG (X.blk s H scope (compEnvC scope cl C X.env) fp) tg g) (ht : ∀ (s : Shared) (H : Hp) (C : Addr) (cl : List (Str × Addr)) (fp : List Addr), PTs (X.blk s H scope (compEnvC scope cl C X.env) fp) ifs tt)
    (he : ∀ (s : Shared) (H : Hp) (C : Addr) (cl : List (Str × Addr)) (fp : List Addr), PE (X.blk s H scope (compEnvC scope cl C X.env) fp) elt te) (hs : ∀ x, foldedSetIterable iter X.env x = pure x := by intro _; rfl) :
    PE X (.ListComp elt [⟨tg, iter, ifs, 0⟩] scope pos) (tLc wi g tt te (own.map (·.2))) := by
  intro pins s σ H Q I h
  rw [eval_ListComp]
  refine lc_core hc hN I hi ok hg ht he hs h fun D C s' m H' I' q hn f => ⟨m, hn, fun h'' sb => ?_⟩
  obtain ⟨f0, f1, f2, f3, f4, f5⟩ := f
  exact ⟨.ref D, H', I'.turned (t' := s'.toks) (fun b o hb e => (sb.2 b hb).trans e) f0 f1 f3 f4 f5, rfl, q⟩
end
theorem lc_range {lo : Int} {n : Nat} {g : TG} {tt : TT} {te : TE} {vs : List Nat} {σ : St} {H1 : Hp} {D : Addr} {Qd : Hp → Prop} (Pv : Nat → Hp → Prop) (h0 : Pv 0 (upd H1 D (.lst [])))
    (hs : ∀ i H, i < n → Pv i H → g (.int (lo + i)) (wipe σ vs) H fun σ2 H2 => wipe σ2 vs = wipe σ vs ∧ tt σ2 H2 fun b H3 =>
      if b = true then te σ2 H3 fun y H4 => ∃ acc, H4 D = some (.lst acc) ∧ acc.length < sizeLine ∧ Pv (i + 1) (upd H4 D (.lst (acc ++ [y]))) else Pv (i + 1) H3) (hd : ∀ H, Pv n H → Qd H) :
    ∃ W : Nat → Nat → Hp → Prop, (∃ m, W 0 m (upd H1 D (.lst []))) ∧ ∀ i m H, W i m H →
      ((Itr lo n).stop i H ∧ Qd H) ∨ ((Itr lo n).go i H ∧ ∃ Nx : Hp → Prop, (∀ H', Nx H' → ∃ m', m' < m ∧ W (i + 1) m' H') ∧ ∀ x H', (Itr lo n).yld i H x H' → g x (wipe σ vs) H' fun σ2 H2 => wipe σ2 vs = wipe σ vs ∧ tt σ2 H2 fun b H3 =>
        if b = true then te σ2 H3 fun y H4 => ∃ acc, H4 D = some (.lst acc) ∧ acc.length < sizeLine ∧ Nx (upd H4 D (.lst (acc ++ [y]))) else Nx H3) := by
  refine ⟨fun i m H => m = n - i ∧ i ≤ n ∧ Pv i H, ⟨n, by simp, Nat.zero_le _, h0⟩, ?_⟩
  rintro i m H ⟨rfl, hi, p⟩
  by_cases hlt : i < n
  · refine .inr ⟨hlt, Pv (i + 1), fun H' p' => ⟨n - (i + 1), by omega, rfl, hlt, p'⟩, fun x H' y => ?_⟩
    obtain ⟨e, y⟩ := y
    subst e y
    exact hs i _ hlt p
  · have e : i = n := by omega
    subst e
    exact .inl ⟨Nat.le_refl _, hd H p⟩
theorem lc_list {K : PySem.W.Frag} {a : Addr} {xs : List V} {g : TG} {tt : TT} {te : TE} {vs : List Nat} {σ : St} {H1 : Hp} {D : Addr} {Qd : Hp → Prop} (Pv : Nat → Hp → Prop) (h0 : Pv 0 (upd H1 D (.lst []))) (hl : ∀ i H, i ≤ xs.length → Pv i H → SqL K H a xs)
    (hs : ∀ i x H, xs[i]? = some x → Pv i H → g x (wipe σ vs) H fun σ2 H2 => wipe σ2 vs = wipe σ vs ∧ tt σ2 H2 fun b H3 =>
      if b = true then te σ2 H3 fun y H4 => ∃ acc, H4 D = some (.lst acc) ∧ acc.length < sizeLine ∧ Pv (i + 1) (upd H4 D (.lst (acc ++ [y]))) else Pv (i + 1) H3) (hd : ∀ H, Pv xs.length H → Qd H) :
    ∃ W : Nat → Nat → Hp → Prop, (∃ m, W 0 m (upd H1 D (.lst []))) ∧ ∀ i m H, W i m H →
      ((Itl K a).stop i H ∧ Qd H) ∨ ((Itl K a).go i H ∧ ∃ Nx : Hp → Prop, (∀ H', Nx H' → ∃ m', m' < m ∧ W (i + 1) m' H') ∧ ∀ x H', (Itl K a).yld i H x H' → g x (wipe σ vs) H' fun σ2 H2 => wipe σ2 vs = wipe σ vs ∧ tt σ2 H2 fun b H3 =>
        if b = true then te σ2 H3 fun y H4 => ∃ acc, H4 D = some (.lst acc) ∧ acc.length < sizeLine ∧ Nx (upd H4 D (.lst (acc ++ [y]))) else Nx H3) := by
  refine ⟨fun i m H => m = xs.length - i ∧ i ≤ xs.length ∧ Pv i H, ⟨xs.length, by simp, Nat.zero_le _, h0⟩, ?_⟩
  rintro i m H ⟨rfl, hi, p⟩
  have q := hl i H hi p
  by_cases hlt : i < xs.length
  · refine .inr ⟨⟨xs, xs[i], q, by simp [hlt]⟩, Pv (i + 1), fun H' p' => ⟨xs.length - (i + 1), by omega, rfl, hlt, p'⟩, fun x H' y => ?_⟩
    obtain ⟨e, y⟩ := y
    subst e
    exact hs i x _ (y xs q) p
  · have e : i = xs.length := by omega
    subst e
    exact .inl ⟨⟨xs, q, Nat.le_refl _⟩, hd H p⟩
def blkC (N : List Str) (sc scope : Scope) (own : List (Str × Nat)) : Bool :=
  (match scope.kind with | .function => true | _ => false) && (scope.names.all fun y => decide (scope.names.lookup y.1 = some y.2)) && (own.all fun p => decide (N[p.2]? = some p.1)) &&
    (scope.names.all fun y => match y.2 with
      | .free => (match sc.names.lookup y.1 with | some .cell => true | some .free => true | _ => false)
      | .local => decide (y.1 ∈ own.map (·.1)) || decide (y.1 ∉ N)
      | .cell => decide (y.1 ∈ own.map (·.1)) || decide (y.1 ∉ N)
      | _ => true)
theorem blkOk_by {N : List Str} {sc scope : Scope} {own : List (Str × Nat)} (h : blkC N sc scope own = true) : BlkOk N sc scope own := by
  unfold blkC at h
  simp only [Bool.and_eq_true, List.all_eq_true, decide_eq_true_eq] at h
  obtain ⟨⟨⟨h1, h2⟩, h3⟩, h4⟩ := h
  refine ⟨?_, h2, h3, fun y hy e => ?_, fun y hy e => ?_⟩
  · split at h1
    · assumption
    · cases h1
  · have q := h4 y hy
    simp only [e] at q
    split at q <;> first | exact .inl (by assumption) | exact .inr (by assumption) | cases q
  · have q := h4 y hy
    rcases e with e | e <;> (simp only [e, Bool.or_eq_true, decide_eq_true_eq] at q; exact q)
end L2
namespace L2
open PySem PySem.Spec PyProof.Rows
section
variable {prog : Program} {w : World} {A : Around} {R : Result → Shared → Prop} {s : Shared} {elt t0 i0 t1 i1 : Expr} {ifs0 ifs1 : List Expr} {scope : Scope} {pos : Pos} {it acc : Value} {env : Env}
end
section
variable {X : Cx}
end
end L2
namespace L2
open PySem PySem.Spec PyProof.Rows
section
variable {κ : Type} [DecidableEq κ]
def valV (kvs : List (κ × V)) (k : κ) : Option V := (kvs.find? fun kv => decide (kv.1 = k)).map (·.2)
def putK (kvs : List (κ × V)) (k : κ) (v : V) : List (κ × V) :=
  if (kvs.any fun kv => decide (kv.1 = k)) = true then kvs.map (fun kv => if kv.1 = k then (kv.1, v) else kv) else kvs ++ [(k, v)]
def dropK (kvs : List (κ × V)) (k : κ) : List (κ × V) := kvs.filter fun kv => decide (kv.1 ≠ k)
theorem valV_pos {p : κ × V} {r : List (κ × V)} {k : κ} (e : p.1 = k) : valV (p :: r) k = some p.2 := by simp [valV, List.find?_cons, e]
theorem valV_neg {p : κ × V} {r : List (κ × V)} {k : κ} (e : ¬ p.1 = k) : valV (p :: r) k = valV r k := by simp [valV, List.find?_cons, e]
theorem valV_any (k : κ) : ∀ kvs : List (κ × V), (kvs.any fun kv => decide (kv.1 = k)) = (valV kvs k).isSome
  | [] => rfl
  | p :: r => by
    rw [List.any_cons]
    by_cases e : p.1 = k
    · simp only [valV_pos e, decide_eq_true e, Bool.true_or, Option.isSome_some]
    · rw [valV_neg e, decide_eq_false e, Bool.false_or]; exact valV_any k r
theorem RelO.isSome_eq {o : Option V} {u : Option Value} (r : RelO o u) : o.isSome = u.isSome := by
  cases o with
  | none => cases u with
    | none => rfl
    | some _ => exact (show False from r).elim
  | some _ => cases u with
    | none => exact (show False from r).elim
    | some _ => rfl
theorem RelO.getD {o : Option V} {u : Option Value} {d : V} {d' : Value} (r : RelO o u) (rd : RelV d d') : RelV (o.getD d) (u.getD d') := by
  cases o with
  | none => cases u with
    | none => exact rd
    | some _ => exact (show False from r).elim
  | some _ => cases u with
    | none => exact (show False from r).elim
    | some _ => exact r
theorem KV.val {kvs : List (κ × V)} {vs : List (κ × Value)} (r : KV kvs vs) (k : κ) : RelO (valV kvs k) (valueAt vs k) := by
  unfold KV at r
  induction r with
  | nil => exact True.intro
  | @cons p q ps qs h t ih =>
    obtain ⟨h1, h2⟩ := h
    by_cases e : p.1 = k
    · have e' : q.1 = k := h1.symm.trans e
      have b : valueAt (q :: qs) k = some q.2 := by simp [valueAt, List.find?_cons, e']
      rw [valV_pos e, b]; exact h2
    · have e' : ¬ q.1 = k := fun z => e (h1.trans z)
      have b : valueAt (q :: qs) k = valueAt qs k := by simp [valueAt, List.find?_cons, e']
      rw [valV_neg e, b]; exact ih
theorem KV.any {kvs : List (κ × V)} {vs : List (κ × Value)} (r : KV kvs vs) (k : κ) : (kvs.any fun kv => decide (kv.1 = k)) = vs.any fun kv => decide (kv.1 = k) := by
  unfold KV at r
  induction r with
  | nil => rfl
  | cons h t ih => rw [List.any_cons, List.any_cons, ih, h.1]
theorem KV.repl {kvs : List (κ × V)} {vs : List (κ × Value)} (r : KV kvs vs) (k : κ) {y : V} {u : Value} (ry : RelV y u) :
    KV (kvs.map fun kv => if kv.1 = k then (kv.1, y) else kv) (vs.map fun kv => if kv.1 = k then (kv.1, u) else kv) := by
  unfold KV at r ⊢
  induction r with
  | nil => exact .nil
  | @cons p q ps qs h t ih =>
    rw [List.map_cons, List.map_cons]
    refine .cons ?_ ih
    obtain ⟨h1, h2⟩ := h
    by_cases e : p.1 = k
    · rw [if_pos e, if_pos (h1.symm.trans e)]; exact ⟨h1, ry⟩
    · rw [if_neg e, if_neg (fun z => e (h1.trans z))]; exact ⟨h1, h2⟩
theorem KV.put {kvs : List (κ × V)} {vs : List (κ × Value)} (r : KV kvs vs) (k : κ) {y : V} {u : Value} (ry : RelV y u) : KV (putK kvs k y) (stored vs k u) := by
  unfold putK stored
  rw [r.any k]
  by_cases e : (vs.any fun kv => decide (kv.1 = k)) = true
  · rw [if_pos e, if_pos e]; exact r.repl k ry
  · rw [if_neg e, if_neg e]; exact Paired.snoc r ⟨rfl, ry⟩
theorem KV.drop {kvs : List (κ × V)} {vs : List (κ × Value)} (r : KV kvs vs) (k : κ) : KV (dropK kvs k) (without vs k) := by
  unfold KV at r ⊢
  unfold dropK without
  induction r with
  | nil => exact .nil
  | @cons p q ps qs h t ih =>
    obtain ⟨h1, h2⟩ := h
    rw [List.filter_cons, List.filter_cons]
    by_cases e : p.1 = k
    · have a : ¬ decide (p.1 ≠ k) = true := by simp [e]
      have b : ¬ decide (q.1 ≠ k) = true := by simp [h1.symm.trans e]
      rw [if_neg a, if_neg b]; exact ih
    · have e' : ¬ q.1 = k := fun z => e (h1.trans z)
      have a : decide (p.1 ≠ k) = true := by simp [e]
      have b : decide (q.1 ≠ k) = true := by simp [e']
      rw [if_pos a, if_pos b]; exact .cons ⟨h1, h2⟩ ih
theorem KV.keys {kvs : List (κ × V)} {vs : List (κ × Value)} (r : KV kvs vs) : kvs.map (·.1) = vs.map (·.1) := by
  unfold KV at r
  induction r with
  | nil => rfl
  | cons h t ih => rw [List.map_cons, List.map_cons, ih, h.1]
theorem KV.length {kvs : List (κ × V)} {vs : List (κ × Value)} (r : KV kvs vs) : kvs.length = vs.length := Paired.length r
end
abbrev KT (H : Hp) : List (List Key × V) → List (List Key × Addr × Value) → Prop := Paired fun p q => p.1 = q.1 ∧ H q.2.1 = some (.tup (p.1.map kV)) ∧ RelV p.2 q.2.2
theorem KT.val {H : Hp} {kvs : List (List Key × V)} {xs : List (List Key × Addr × Value)} (r : KT H kvs xs) (k : List Key) : RelO (valV kvs k) ((atKey xs k).map (·.2)) := by
  induction r with
  | nil => exact True.intro
  | @cons p q ps qs h t ih =>
    obtain ⟨h1, _, h2⟩ := h
    by_cases e : p.1 = k
    · have e' : q.1 = k := h1.symm.trans e
      have b : atKey (q :: qs) k = some q.2 := by simp [atKey, List.find?_cons, e']
      rw [valV_pos e, b]; exact h2
    · have e' : ¬ q.1 = k := fun z => e (h1.trans z)
      have b : atKey (q :: qs) k = atKey qs k := by simp [atKey, List.find?_cons, e']
      rw [valV_neg e, b]; exact ih
theorem KT.repl {H : Hp} {kvs : List (List Key × V)} {xs : List (List Key × Addr × Value)} (r : KT H kvs xs) (k : List Key) {y : V} {u : Value} (ry : RelV y u) :
    KT H (kvs.map fun kv => if kv.1 = k then (kv.1, y) else kv) (xs.map (putAt k u)) := by
  induction r with
  | nil => exact .nil
  | @cons p q ps qs h t ih =>
    rw [List.map_cons, List.map_cons]
    refine .cons ?_ ih
    obtain ⟨h1, h2, h3⟩ := h
    unfold putAt
    by_cases e : p.1 = k
    · rw [if_pos e, if_pos (h1.symm.trans e)]; exact ⟨h1, h2, ry⟩
    · rw [if_neg e, if_neg (fun z => e (h1.trans z))]; exact ⟨h1, h2, h3⟩
theorem KT.put {H : Hp} {kvs : List (List Key × V)} {xs : List (List Key × Addr × Value)} (r : KT H kvs xs) (k : List Key) {b : Addr} {y : V} {u : Value} (hb : H b = some (.tup (k.map kV))) (ry : RelV y u) :
    KT H (putK kvs k y) (storedH xs k b u) := by
  have e : (kvs.any fun kv => decide (kv.1 = k)) = (atKey xs k).isSome := by
    rw [valV_any, (r.val k).isSome_eq, Option.isSome_map]
  unfold putK storedH
  rw [e]
  by_cases q : (atKey xs k).isSome = true
  · rw [if_pos q, if_pos q]; exact r.repl k ry
  · rw [if_neg q, if_neg q]; exact Paired.snoc r ⟨rfl, hb, ry⟩
theorem KT.keeps {H H' : Hp} {kvs : List (List Key × V)} {xs : List (List Key × Addr × Value)} (r : KT H kvs xs) (ht : ∀ b ys, H b = some (.tup ys) → H' b = some (.tup ys)) : KT H' kvs xs :=
  Paired.mapP r fun _ _ z => ⟨z.1, ht _ _ z.2.1, z.2.2⟩
section
variable {P : Program} {w : World} {H : Hp} {h : Heap} {a : Addr}
end
def DGet (H : Hp) (a : Addr) (y : V) (r : Option V) : Prop :=
  (∃ kvs k, Rd H a (.dK kvs) ∧ y = kV k ∧ r = valV kvs k) ∨ ∃ kvs k b, Rd H a (.dT kvs) ∧ y = .ref b ∧ H b = some (.tup (k.map kV)) ∧ r = valV kvs k
def DPut (H : Hp) (a : Addr) (y v : V) (H' : Hp) : Prop :=
  (∃ kvs k, H a = some (.dK kvs) ∧ y = kV k ∧ kvs.length < sizeLine ∧ H' = upd H a (.dK (putK kvs k v))) ∨
  ∃ kvs k b, H a = some (.dT kvs) ∧ y = .ref b ∧ H b = some (.tup (k.map kV)) ∧ kvs.length < sizeLine ∧ H' = upd H a (.dT (putK kvs k v))
theorem DGet.k {H : Hp} {a : Addr} {kvs : List (Key × V)} {k : Key} (e : H a = some (.dK kvs)) : DGet H a (kV k) (valV kvs k) := .inl ⟨kvs, k, .inl e, rfl, rfl⟩
theorem DGet.t {H : Hp} {a b : Addr} {kvs : List (List Key × V)} {k : List Key} (e : H a = some (.dT kvs)) (eb : H b = some (.tup (k.map kV))) : DGet H a (.ref b) (valV kvs k) := .inr ⟨kvs, k, b, .inl e, rfl, eb, rfl⟩
theorem DPut.k {H : Hp} {a : Addr} {kvs : List (Key × V)} {k : Key} {v : V} (e : H a = some (.dK kvs)) (hl : kvs.length < sizeLine) : DPut H a (kV k) v (upd H a (.dK (putK kvs k v))) := .inl ⟨kvs, k, e, rfl, hl, rfl⟩
theorem DPut.t {H : Hp} {a b : Addr} {kvs : List (List Key × V)} {k : List Key} {v : V} (e : H a = some (.dT kvs)) (eb : H b = some (.tup (k.map kV))) (hl : kvs.length < sizeLine) :
    DPut H a (.ref b) v (upd H a (.dT (putK kvs k v))) := .inr ⟨kvs, k, b, e, rfl, eb, hl, rfl⟩
section
variable {X : Cx} {pins : List (Addr × Obj)} {σ : St} {H : Hp} {s : Shared} {a : Addr} {y v : V} {u r : Value} {o : Option V} {A : Around} {E : Value → Shared → Prop}
end
section
variable {X : Cx} {pins : List (Addr × Obj)} {σ : St} {H : Hp} {s : Shared} {a : Addr} {kvs : List (Key × V)} {k : Key} {u : Value} {A : Around} {E : Value → Shared → Prop}
end
section
variable {X : Cx} {o i e value : Expr} {pos pos' tpos : Pos} {td ty tv : TE}
end
section
variable {X : Cx} {pos : Pos}
end
/-- a method call o.m(e) of a built-in, with one argument: what must be seen of the text -/
structure M1 (X : Cx) (o : Expr) (m : Str) (apos : Pos) (e : Expr) (cpos : Pos) : Prop where
  base : attributeBase o m X.env (eval o X.env) = eval o X.env
  few : ((backTo cpos (starEach [e] X.env)).all (fun x => !x.1) && (backToKw cpos (keywordEach [] X.env)).all (fun x => x.1.isSome)
    && decide (([e] : List Expr).length + ([] : List Keyword).length + (if ([] : List Keyword).isEmpty then 0 else 1) < 30)) = true
  line : (apos.endLine == cpos.line) = true
  trees : backTo cpos (starEach [e] X.env) = [(false, eval e X.env)]
structure M2 (X : Cx) (o : Expr) (m : Str) (apos : Pos) (e f : Expr) (cpos : Pos) : Prop where
  base : attributeBase o m X.env (eval o X.env) = eval o X.env
  few : ((backTo cpos (starEach [e, f] X.env)).all (fun x => !x.1) && (backToKw cpos (keywordEach [] X.env)).all (fun x => x.1.isSome)
    && decide (([e, f] : List Expr).length + ([] : List Keyword).length + (if ([] : List Keyword).isEmpty then 0 else 1) < 30)) = true
  line : (apos.endLine == cpos.line) = true
  trees : backTo cpos (starEach [e, f] X.env) = [(false, eval e X.env), (false, eval f X.env)]
section
variable {X : Cx} {pins : List (Addr × Obj)} {σ : St} {H : Hp} {s : Shared} {a : Addr} {y d : V} {u r : Value} {o : Option V} {A : Around} {E : Value → Shared → Prop}
end
section
variable {X : Cx} {o e f : Expr} {apos cpos : Pos} {td ty tx : TE}
end
section
variable {X : Cx} {pins : List (Addr × Obj)} {σ : St} {H : Hp} {s : Shared} {a : Addr} {kvs : List (Key × V)} {A : Around} {E : Value → Shared → Prop}
end
section
variable {X : Cx} {pins : List (Addr × Obj)} {σ : St} {H : Hp} {s : Shared} {a : Addr} {y : V} {u : Value} {A : Around} {E : Value → Shared → Prop}
end
end L2
namespace L2
open PySem PySem.Spec PyProof.Rows
section
variable {prog : Program} {w : World} {A : Around} {E : Value → Shared → Prop}
end
section
variable {X : Cx}
end
end L2
namespace L2
open PySem PySem.Spec PyProof.Rows
section
variable {X : Cx} {pins : List (Addr × Obj)} {σ : St} {H : Hp} {s : Shared} {h' : Heap}
theorem Inv.turnedNew {t' : Nat} {ch : List Addr} {T : Addr} {ob : HO} (I : Inv X pins σ H s) (k : ∀ b o, b ∉ ch → s.heap.get? b = some o → h'.get? b = some o) (hf : ∀ b ∈ ch, FpOk X pins H b) (hT : s.heap.objs.size ≤ T)
    (new : ObjOk X.prog X.w (upd H T ob) h' T ob) : Inv X pins σ (upd H T ob) { s with heap := h', toks := t' } := by
  have hn : H T = none := I.hok.fresh hT
  have nit : ∀ b u, H b = some u → b ∉ ch := fun b u e z => by
    have q := (hf b z).1
    rw [q] at e; cases e
  refine I.step (g' := s.gens) (d' := s.drawn) (ch := ch) (fun b hb => ⟨(hf b hb).2.2.2.1, (hf b hb).2.1, (hf b hb).2.2.2.2.1, (hf b hb).2.2.2.2.2⟩) (fun b o _ _ hc e _ => k b o hc e) (fun b o _ _ hc e _ => ⟨o.slots, k b o hc e⟩)
    (fun b o _ e n => ?_) (fun b o hc e => ⟨o, k b o hc e⟩) (fun b xs e => ?_) (fun b o u e => ?_) (fun b ps e => ⟨#[], ?_⟩) (fun m hm => ?_) (fun b u e => ?_) I.bare
  · rw [upd_ne (Nat.ne_of_lt (Nat.lt_of_lt_of_le (Heap.lt_size e) hT))]; exact n
  · rw [upd_ne (ne_of_none e hn)]; exact e
  · rw [upd_ne (ne_of_none e hn)]; exact e
  · rw [upd_ne (ne_of_none e hn), e]; simp
  · obtain ⟨o, es, ep, ho, r⟩ := hm
    exact ⟨o, es, ep, k _ o (fun z => (hf _ z).2.1 rfl) ho, r⟩
  · by_cases hb : b = T
    · subst hb
      rw [upd_same] at e
      cases e
      exact new
    · rw [upd_ne hb] at e
      refine (I.hok b u e).stay (fun c v hc q => k c v ?_ q) (fun c q => by rw [upd_ne (ne_of_none q hn)]; exact q) fun c xs q => by rw [upd_ne (ne_of_none q hn)]; exact q
      rcases hc with z | z
      · rw [z]; exact nit b u e
      · exact nit c _ z
end
section
variable {X : Cx}
theorem pi_one {tg : Expr} {pins : List (Addr × Obj)} {σ : St} {H : Hp} {s : Shared} {R : It → Hp → Prop} {J : It} {tn : Nat → Heap → Prop} {tk : Nat} (I : Inv X pins σ H s) (o : Obj)
    (T : Turn X.prog X.w X.K tg J [s.heap.objs.size] s.heap.objs.size tn) (st : tn 0 (s.heap.push o)) (q : R J H) : PIE X pins σ tg R (.ref s.heap.objs.size) { s with heap := s.heap.push o, toks := tk } := by
  refine ⟨s.heap.objs.size, [s.heap.objs.size], tn, J, H, rfl, I.kept fun b ob e => Heap.get?_push_of_some _ e, T, st, fun b hb => ?_, q⟩
  have e : b = s.heap.objs.size := by simpa using hb
  subst e
  exact I.fpOk (Nat.le_refl _) (I.hok.fresh (Nat.le_refl _))
end
def Itc (lo c : Int) (n : Nat) : It := ⟨fun i _ => i < n, fun i H x H' => H' = H ∧ x = .int (lo + (i : Nat) * c), fun i _ => n ≤ i⟩
theorem turn_rangeC {P : Program} {w : World} {K : PySem.W.Frag} {tg : Expr} (it : Addr) (lo c : Int) (n : Nat) : Turn P w K tg (Itc lo c n) [it] it (fun i h => IsRangeIter h it (lo + (i : Nat) * c) ((n : Int) - (i : Nat)) c) where
  mem := by simp
  obj := fun i h st b hb => by
    have e : b = it := by simpa using hb
    subst e
    exact ⟨_, st, fun v z => nomatch z⟩
  keep := fun i h h' st k => k it (by simp) _ st
  item := by
    intro X hP hw hK hc i pins s σ H E I hf st hg
    subst hP hw hK
    obtain ⟨f0, f1, f2, f3, f4, f5⟩ := hf it (by simp)
    have W := Walks.range (prog := X.prog) (w := X.w) (I.ok.hd hc) it lo c n
    refine W.item i s _ _ hg st fun v h' tk hv st' kk => ?_
    obtain ⟨t, rfl⟩ := hv
    have I1 : Inv X pins σ H { s with heap := h', toks := tk } := I.turned (fun b o hb e => kk b o (by simpa using hb) e) f0 f1 f3 f4 f5
    exact ⟨_, rfl, go_of (s := { s with heap := h', toks := tk }) (n := "range_iterator") st' rfl rfl (by decide) ⟨.int (lo + (i : Nat) * c), H, I1, ⟨t, rfl⟩, ⟨rfl, rfl⟩, st', fun b hb => (hf b hb).1⟩⟩
  done := by
    intro X hP hw hK hc i pins s σ H E I hf st hg
    subst hP hw hK
    obtain ⟨f0, f1, f2, f3, f4, f5⟩ := hf it (by simp)
    exact wpAny_pyNext_range_end (I.ok.hd hc) st (by have : n ≤ i := hg; omega) fun h' eb => ⟨rfl, I.turned (t' := s.toks) (fun b o hb e => eb b o hb e) f0 f1 f3 f4 f5⟩
  self := fun A i s Q E st h => wpAny_pyIter_rangeiter st h
def RgC (i j c : Int) (n : Nat) : Prop := c ≠ 0 ∧ c.natAbs < 1073741824 ∧ Builtin.Range.small i j c = true ∧ Builtin.Range.rangeSize i j c = n
def iRng3 (ta : TA) : TI := fun σ H R => ta σ H fun vs H1 => ∃ (i j c : Int) (n : Nat), vs = [.int i, .int j, .int c] ∧ RgC i j c n ∧ R (Itc i c n) H1
section
variable {X : Cx} {tg : Expr}
theorem pi_range3 {a b c : Expr} {ta : TA} {p pos : Pos} (hg : Gl X "range") (hm : X.mg "range" = none) (ha : PA X [a, b, c] ta)
    (hs : starEach [a, b, c] X.env = (false, eval a X.env) :: starEach [b, c] X.env := by rfl) (hpl : (backTo pos (starEach [b, c] X.env)).any (·.1) = false := by rfl) :
    PI X tg (.Call (.Name "range" p) [a, b, c] [] pos) (iRng3 ta) := by
  intro pins s σ H R I h
  refine Call_ (ld_blt I hg hm boot_range (PyProof.Rows.callWith_type1 (thn (ha pos pins s σ H _ I h) fun us s1 ⟨vs, H1, I1, r1, q1⟩ => ?_) hs hpl))
  obtain ⟨i, j, k, n, e, ⟨c0, c1, c2, c3⟩, q⟩ := q1
  subst e
  cases r1 with
  | cons r rr =>
    cases rr with
    | cons r' rr =>
      cases rr with
      | cons r'' rr =>
        cases rr
        obtain ⟨t, rfl⟩ := r
        obtain ⟨t', rfl⟩ := r'
        obtain ⟨t'', rfl⟩ := r''
        refine call_range_3 c0 ?_ (.inl (PyProof.noPylong_small c1))
        refine wpAny_pyIter_range (IsRange.new ..) c2 ?_
        have I2 : Inv X pins σ H1 { s1 with heap := s1.heap.push { cls := .type "range", data := .fields #[.int i t, .int j t', .int k t''] } } := I1.kept (t' := s1.toks) fun b o e => Heap.get?_push_of_some _ e
        refine pi_one (tk := s1.toks) I2 _ (turn_rangeC _ i k n) ?_ q
        have e1 : i + ((0 : Nat) : Int) * k = i := by simp
        have e2 : (n : Int) - ((0 : Nat) : Int) = Builtin.Range.rangeSize i j k := by rw [c3]; simp
        show IsRangeIter _ _ (i + ((0 : Nat) : Int) * k) ((n : Int) - ((0 : Nat) : Int)) k
        rw [e1, e2]
        exact Heap.get?_push_size _ rfl
end
section
variable {X : Cx} {tg : Expr}
end
section
variable {prog : Program} {w : World} {A : Around} {E : Value → Shared → Prop} {s : Shared}
end
section
variable {X : Cx} {pins : List (Addr × Obj)} {σ : St} {H : Hp} {s : Shared} {d : Addr} {o : Obj}
end
section
variable {P : Program} {w : World} {K : PySem.W.Frag} {tg : Expr} {d : Addr} {o : Obj} {es : Array DictEntry} {ep : Nat}
end
section
variable {X : Cx} {tg e : Expr} {td : TE} {apos cpos : Pos}
end
def Ite (K : PySem.W.Frag) (a : Addr) : It :=
  ⟨fun i H => ∃ (xs : List V) (x : V), SqL K H a xs ∧ xs[i]? = some x, fun i H v H' => ∃ T x, v = .ref T ∧ H T = none ∧ H' = upd H T (.tup [.int (i : Nat), x]) ∧ ∀ xs, SqL K H a xs → xs[i]? = some x, fun i H => ∃ xs : List V, SqL K H a xs ∧ xs.length ≤ i⟩
theorem turn_enum {P : Program} {w : World} {K : PySem.W.Frag} {elts : List Expr} {kk : Nat} {tpos : Pos} (a e it : Addr) :
    Turn P w K (.Tuple elts kk tpos) (Ite K a) [e, it] e (fun i h => (∃ old, IsEnum h e it ((i : Nat) : Int) old) ∧ h.IsListIter it a i ∧ e ≠ it) where
  mem := by simp
  obj := fun i h st b hb => by
    obtain ⟨⟨old, he⟩, ⟨o, ho, hc, hd⟩, _⟩ := st
    have e' : b = e ∨ b = it := by simpa using hb
    rcases e' with z | z
    · rw [z]; exact ⟨_, he, fun v q => nomatch q⟩
    · rw [z]; exact ⟨o, ho, fun v q => by rw [hd] at q; cases q⟩
  keep := fun i h h' st k => let ⟨⟨old, he⟩, hi, hne⟩ := st; ⟨⟨old, k e (by simp) _ he⟩, hi.at fun o q => k it (by simp) o q, hne⟩
  item := by
    intro X hP hw hK hc i pins s σ H E I hf st hg
    subst hP hw hK
    obtain ⟨⟨old, he⟩, hit, hne⟩ := st
    obtain ⟨xs, x, hq, hx⟩ := hg
    obtain ⟨its, rv, p, hz⟩ := I.list hq
    obtain ⟨u, hu, ru⟩ := rv.get hx
    have hel : e < s.heap.objs.size := Heap.lt_size he
    have hil : it < s.heap.objs.size := by obtain ⟨_, q, _⟩ := hit; exact Heap.lt_size q
    refine wpAny_pyNext_enum_item he hit p.isList (x := u) (by simpa using hu) hne fun h' ho hit' hT hsz hk => ?_
    refine ⟨_, rfl, wpAny_letOwnedTupleGo_enum (s := { s with heap := h', toks := s.toks + 1 }) ho fun h'' he' sb => ?_⟩
    have hT2 : h''.get? s.heap.objs.size = some { cls := .type "tuple", data := .seq #[.int i s.toks, u] } := (sb.2 _ (Nat.ne_of_gt hel)).trans hT
    have new : ObjOk X.prog X.w (upd H s.heap.objs.size (.tup [.int (i : Nat), x])) h'' s.heap.objs.size (.tup [.int (i : Nat), x]) :=
      ⟨by show 2 ≤ sizeLine; decide, [.int i s.toks, u], .cons ⟨_, rfl⟩ (.cons ru .nil), ⟨_, hT2, rfl, _, rfl⟩⟩
    have I1 : Inv X pins σ (upd H s.heap.objs.size (.tup [.int (i : Nat), x])) { s with heap := h'', toks := s.toks + 1 } :=
      I.turnedNew (ch := [e, it]) (fun b ob hb q => (sb.2 b (fun z => hb (by simp [z]))).trans (hk b ob (fun z => hb (by simp [z])) (fun z => hb (by simp [z])) q)) hf (Nat.le_refl _) new
    refine ⟨.ref s.heap.objs.size, _, I1, rfl, ⟨_, x, rfl, I.hok.fresh (Nat.le_refl _), rfl, fun ys hy => by rw [I.list_inj hy hq]; exact hx⟩, ⟨⟨u, ?_⟩, hit'.at fun o q => (sb.2 it (Ne.symm hne)).trans q, hne⟩, fun b hb => ?_⟩
    · have e1 : ((i + 1 : Nat) : Int) = (i : Int) + 1 := by omega
      rw [e1]; exact he'
    · have hb' : b < s.heap.objs.size := by
        have e' : b = e ∨ b = it := by simpa using hb
        rcases e' with z | z
        · rw [z]; exact hel
        · rw [z]; exact hil
      rw [upd_ne (Nat.ne_of_lt hb')]
      exact (hf b hb).1
  done := by
    intro X hP hw hK hc i pins s σ H E I hf st hg
    subst hP hw hK
    obtain ⟨⟨old, he⟩, hit, hne⟩ := st
    obtain ⟨xs, hq, hx⟩ := hg
    obtain ⟨its, rv, p, hz⟩ := I.list hq
    obtain ⟨f0, f1, f2, f3, f4, f5⟩ := hf it (by simp)
    have hl := rv.length
    exact wpAny_pyNext_enum_end (I.ok.hd hc) he hit p.isList (by simp; omega) fun h' eb => ⟨rfl, I.turned (t' := s.toks) (fun b o hb q => eb b o hb q) f0 f1 f3 f4 f5⟩
  self := fun A i s Q E st h => let ⟨⟨_, he⟩, _⟩ := st; wpAny_pyIter_enum he h
def iEnum (K : PySem.W.Frag) (ta : TA) : TI := fun σ H R => ta σ H fun vs H1 => ∃ a xs, vs = [.ref a] ∧ SqL K H1 a xs ∧ R (Ite K a) H1
theorem pi_enum {X : Cx} {e : Expr} {ta : TA} {p pos tpos : Pos} {elts : List Expr} {kk : Nat} (hg : Gl X "enumerate") (hm : X.mg "enumerate" = none) (ha : PA X [e] ta) (hs : starEach [e] X.env = [(false, eval e X.env)] := by rfl) :
    PI X (.Tuple elts kk tpos) (.Call (.Name "enumerate" p) [e] [] pos) (iEnum X.K ta) := by
  intro pins s σ H R I h
  refine Call_ (ld_blt I hg hm boot_enumerate (PyProof.Rows.callWith_type1 (thn (ha pos pins s σ H _ I h) fun us s1 ⟨vs, H1, I1, r1, q1⟩ => ?_) hs rfl))
  obtain ⟨a, xs, ex, hq, q⟩ := q1
  subst ex
  cases r1 with
  | cons r rr =>
    cases rr
    cases r
    obtain ⟨its, rv, p', hz⟩ := I1.list hq
    refine call_enumerate_list p'.isList fun h' he hit hsz hk => wpAny_pyIter_enum he ?_
    have I2 : Inv X pins σ H1 { s1 with heap := h' } := I1.kept (t' := s1.toks) hk
    refine ⟨s1.heap.objs.size + 1, [s1.heap.objs.size + 1, s1.heap.objs.size], _, _, H1, rfl, I2, turn_enum a (s1.heap.objs.size + 1) s1.heap.objs.size, ⟨⟨.none, he⟩, hit, Nat.succ_ne_self _⟩, fun b hb => ?_, q⟩
    have e' : b = s1.heap.objs.size + 1 ∨ b = s1.heap.objs.size := by simpa using hb
    have hle : s1.heap.objs.size ≤ b := by
      rcases e' with z | z
      · rw [z]; exact Nat.le_add_right _ _
      · rw [z]; exact Nat.le_refl _
    exact I1.fpOk hle (I1.hok.fresh hle)
end L2
section 
namespace Bits
open PySem PyProof.Rows
end Bits
end 
section 
namespace TL
open PySem PySem.Builtin PySem.Builtin.Str PySem.StrLaws
abbrev tl (x : Str) : List Nat := x.cps.toList
def pre (S l : List Nat) : Bool := l.take S.length == S
def par (S : List Nat) : List Nat → List Nat → Option (List Nat × List Nat)
  | _, [] => none
  | acc, c :: r => if pre S (c :: r) = true then some (acc, (c :: r).drop S.length) else par S (acc ++ [c]) r
end TL
end 
namespace L2
open PySem PySem.Spec PyProof.Rows
section
variable {X : Cx} {pins : List (Addr × Obj)} {σ : St} {H : Hp} {s : Shared} {Q : VK}
end
section
variable {X : Cx}
end
section
variable {X : Cx} {o e : Expr} {to te : TE}
end
end L2
namespace L2
open PySem PySem.Spec PyProof.Rows
section
variable {X : Cx}
end
theorem IsPart.raw {v : Value} {o : Option Int} (p : IsPart v o) : ∃ l : Option (Int × Tok), v = partValue l ∧ l.map (·.1) = o := by
  cases p with
  | none => exact ⟨none, rfl, rfl⟩
  | int i t => exact ⟨some (i, t), rfl, rfl⟩
end L2
namespace Att
open PySem PySem.W PySem.Calls PyProof.Rows
section
variable {prog : Program} {w : World} {A : Around} {E : Value → Shared → Prop} {s : Shared} {K : Frag}
end
end Att
namespace L2
open PySem PySem.Spec PyProof.Rows
end L2
namespace L2
open PySem PySem.Spec PyProof.Rows
end L2
namespace L2
open PySem PySem.Spec PyProof.Rows
def defArgs (s : Stmt) : Arguments := match s with
  | .FunctionDef _ a _ _ _ _ _ _ _ _ => a
  | _ => { posonlyargs := [], args := [], vararg := none, kwonlyargs := [], kw_defaults := [], kwarg := none, defaults := [] }
def defBody (s : Stmt) : List Stmt := match s with
  | .FunctionDef _ _ b _ _ _ _ _ _ _ => b
  | _ => []
def defScope (s : Stmt) : Scope := match s with
  | .FunctionDef _ _ _ _ _ _ sc _ _ _ => sc
  | _ => { kind := .function, names := [], isGenerator := false, isCoroutine := false }
abbrev CX0 : CXT := fun _ _ _ _ _ _ => False
abbrev E0 : XK := fun _ _ _ => False
theorem pass0 {X : Cx} : Passes CX0 X E0 := fun _ _ _ _ _ _ _ h => h.elim
structure Fun (K : PySem.W.Frag) (x qual : Str) (st : Stmt) (f : Addr) (fd : FuncData) : Prop where
  ex : ∃ (oc : Value) (od : Option Addr) (kV doc pm : Value) (an : Option Addr) (cdv ct : Value) (osl : Array (Option Value)),
    fd = PySem.W.fnOf x qual (defArgs st) (defBody st) (defScope st) .none kV doc pm an cdv ct ∧ K.lookup f = some ⟨oc, od, .func fd, osl⟩ ∧ PySem.W.codeIn K cdv qual = true
  kp : PySem.W.keepIn K (.ref f) = true
section
variable {P : Program} {w : World} {K : PySem.W.Frag} {mg : Str → Option Value} {base : Heap}
theorem Fun.ok {x qual : Str} {st : Stmt} {f : Addr} {fd : FuncData} {N ps : List Str} {k : Nat} {sp : Sp} (F : Fun K x qual st f fd) (S : FnScope N ps (defScope st)) (len : ∀ vs H Q E, sp vs H Q E → vs.length = ps.length)
    (hbody : ∀ (cdv : Value) (A : Around) (outer : List Env) (s : Shared) (H : Hp) (vs : List V) (Q : VK) (E : XK), Room k (A.deeper (envOfC qual (defScope st) s.heap.objs.size f cdv)) → sp vs H Q E →
      ∃ t, PSs (cxOf CX0 P w K mg base N qual (defScope st) f cdv A outer s H E).nox (defBody st) t ∧ t { nx := fun _ H' => Q .non H', rt := Q } (start N vs) H) : FnOk P w K mg base CX0 (k + 1) f fd ps sp := by
  obtain ⟨oc, od, kV, doc, pm, an, cdv, ct, osl, rfl, lk, hcd⟩ := F.ex
  refine fn_of lk hcd S len fun A outer s H vs Q E hr hsp => ?_
  obtain ⟨t, h, q⟩ := hbody cdv A outer s H vs Q E hr hsp
  exact ⟨t, h.nox, q⟩
theorem Fun.binds {x qual : Str} {st : Stmt} {f : Addr} {fd : FuncData} {ps : List Str} (F : Fun K x qual st f fd)
    (h : ∀ (kV doc pm : Value) (an : Option Addr) (cdv ct : Value) (us : List Value), us.length = ps.length → bindArgs (PySem.W.fnOf x qual (defArgs st) (defBody st) (defScope st) .none kV doc pm an cdv ct) ⟨us, []⟩ = pure (ps.zip us)) : Binds K fd ps [] := by
  obtain ⟨oc, od, kV, doc, pm, an, cdv, ct, osl, rfl, lk, hcd⟩ := F.ex
  exact .all (h kV doc pm an cdv ct)
theorem fun_mk {x qual : Str} {st : Stmt} {f : Addr} {oc : Value} {od an : Option Addr} {osl : Array (Option Value)} {kV doc pm cdv ct : Value} (l : K.lookup f = some ⟨oc, od, .func (PySem.W.fnOf x qual (defArgs st) (defBody st) (defScope st) .none kV doc pm an cdv ct), osl⟩)
    (c : PySem.W.codeIn K cdv qual = true) (k : PySem.W.keepIn K (.ref f) = true) : Fun K x qual st f (PySem.W.fnOf x qual (defArgs st) (defBody st) (defScope st) .none kV doc pm an cdv ct) := ⟨⟨oc, od, kV, doc, pm, an, cdv, ct, osl, rfl, l, c⟩, k⟩
end
section
variable {X : Cx}
theorem pv (i : Nat) {x : Str} {pos : Pos} (hN : X.N[i]? = some x := by rfl) (hv : Vis X.env.scope x := by first | exact Or.inl rfl | exact Or.inr (Or.inl rfl) | exact Or.inr (Or.inr rfl)) (hd : (x == ("__debug__" : Str)) = false := by decide)
    (hcd : (x == ("__classdict__" : Str)) = false := by decide) : PE X (.Name x pos) (tVar i) := pe_var hN hv hd hcd
end
theorem iteF {A B : Prop} (h : B) : if false = true then A else B := by
  rw [if_neg Bool.false_ne_true]
  exact h
theorem iteT {A B : Prop} (h : A) : if true = true then A else B := by
  rw [if_pos rfl]
  exact h
theorem ite2 {c A B : Prop} [Decidable c] (h1 : c → A) (h2 : ¬ c → B) : if c then A else B := by
  by_cases h : c
  · rw [if_pos h]
    exact h1 h
  · rw [if_neg h]
    exact h2 h
def Same (H H' : Hp) : Prop := ∀ b o, H b = some o → H' b = some o
theorem Same.refl (H : Hp) : Same H H := fun _ _ h => h
theorem Same.trans {H H1 H2 : Hp} (a : Same H H1) (b : Same H1 H2) : Same H H2 := fun c o h => b c o (a c o h)
theorem Same.free {H H' : Hp} (e : Same H H') {l : Addr} (h : H' l = Option.none) : H l = Option.none := by
  cases q : H l with
  | none => rfl
  | some o =>
    rw [e l o q] at h
    cases h
theorem Same.seq {K : PySem.W.Frag} {H H' : Hp} {a : Addr} {xs : List V} (e : Same H H') (h : SqL K H a xs) : SqL K H' a xs := by
  rcases h with (h | ⟨o, h⟩) | h
  · exact .inl (.inl (e _ _ h))
  · exact .inl (.inr ⟨o, e _ _ h⟩)
  · exact .inr h
section
variable {κ : Type} [DecidableEq κ]
end
theorem Same.made {H H1 : Hp} {x dx C : Addr} (nx : H x = Option.none) (nd : H dx = Option.none) (k : ∀ b o, (upd (upd H dx (.own x)) x (.ins C dx [])) b = some o → b ≠ x → H1 b = some o) : Same H H1 := fun b o e =>
  k b o (by rw [upd_ne (ne_of_none e nx), upd_ne (ne_of_none e nd)]; exact e) (ne_of_none e nx)
end L2
section
set_option Elab.async false
set_option linter.all false
set_option maxRecDepth 100000
set_option maxHeartbeats 2000000
namespace L2
open PySem PySem.Spec PyProof.Rows
open PySem.W (WData Codec OpenSpec Well WellAll ReadsW ReadsAllW)
mutual
/-- x stands for the datum d, lists and tuples all the way -/
inductive Dw (K : PySem.W.Frag) (H : Hp) : V → WData → Prop
  | non : Dw K H .non .none
  | bl (b : Bool) : Dw K H (.bl b) (.bool b)
  | int (i : Int) : Dw K H (.int i) (.int i)
  | str (x : Str) : Dw K H (.str x) (.str x)
  | byt (b : Array UInt8) : Dw K H (.byt b) (.bytes b.toList)
  | lst {a : Addr} {xs : List V} {ds : List WData} : SqL K H a xs → DwAll K H xs ds → Dw K H (.ref a) (.list ds)
  | tup {a : Addr} {xs : List V} {ds : List WData} : SqT K H a xs → DwAll K H xs ds → Dw K H (.ref a) (.tuple ds)
inductive DwAll (K : PySem.W.Frag) (H : Hp) : List V → List WData → Prop
  | nil : DwAll K H [] []
  | cons {v : V} {vs : List V} {d : WData} {ds : List WData} : Dw K H v d → DwAll K H vs ds → DwAll K H (v :: vs) (d :: ds)
end
theorem dw_ints {K : PySem.W.Frag} {H : Hp} : ∀ ns : List Int, DwAll K H (ns.map V.int) (ns.map WData.int)
  | [] => .nil
  | n :: r => .cons (.int n) (dw_ints r)
theorem ints_dw {K : PySem.W.Frag} {H : Hp} : ∀ (ns : List Int) (xs : List V), DwAll K H xs (ns.map WData.int) → xs = ns.map V.int
  | [], xs, h => by
    cases h
    rfl
  | n :: r, xs, h => by
    cases h with
    | cons h1 h2 =>
      cases h1
      rw [ints_dw r _ h2] <;> rfl
section
variable {P : Program} {w : World} {K : PySem.W.Frag} {H : Hp} {h : Heap} {R : PySem.W.WRecords} {cl : Str → Option Addr}
theorem sqL_at {a : Addr} {xs : List V} (hok : HOk P w H h) (KX : K.In h) (q : SqL K H a xs) : ∃ (its : List Value) (o : Obj) (n : Nat), Vals xs its ∧ h.get? a = some o ∧ o.cls = .type "list" ∧ o.data = .seq its.toArray n := by
  rcases q with q | ⟨o, its, n, e, hc, _, hd, _, hv⟩
  · obtain ⟨_, its, n, hv, e⟩ := (show ObjOk P w H h a (.lst xs) from q.ok hok)
    exact ⟨its, _, n, hv, e, rfl, rfl⟩
  · exact ⟨its.toList, o, n, hv, KX _ _ e, hc, by simp [hd]⟩
theorem sqT_at {a : Addr} {xs : List V} (hok : HOk P w H h) (KX : K.In h) (q : SqT K H a xs) : ∃ (its : List Value) (o : Obj) (n : Nat), Vals xs its ∧ h.get? a = some o ∧ o.cls = .type "tuple" ∧ o.data = .seq its.toArray n := by
  rcases q with q | ⟨o, its, n, e, hc, hd, _, hv⟩
  · obtain ⟨_, its, hv, o, e, hc, n, hd⟩ := (show ObjOk P w H h a (.tup xs) from q.ok hok)
    exact ⟨its, o, n, hv, e, hc, hd⟩
  · exact ⟨its.toList, o, n, hv, KX _ _ e, hc, by simp [hd]⟩
mutual
theorem Dw.reads (hok : HOk P w H h) (KX : K.In h) : ∀ (d : WData) (v : V) (u : Value), Dw K H v d → RelV v u → ∃ as, ReadsW R cl h u d as
  | .none, _, _, x, r => by
    cases x
    cases r
    exact ⟨_, ReadsW.none⟩
  | .bool b, _, _, x, r => by
    cases x
    cases r
    exact ⟨_, ReadsW.bool b⟩
  | .int i, _, _, x, r => by
    cases x
    obtain ⟨t, rfl⟩ := r
    exact ⟨_, ReadsW.int i t⟩
  | .str s, _, _, x, r => by
    cases x
    obtain ⟨t, rfl⟩ := r
    exact ⟨_, ReadsW.str s t⟩
  | .bytes b, _, _, x, r => by
    cases x
    obtain ⟨t, rfl⟩ := r
    exact ⟨_, ReadsW.bytes _ t⟩
  | .list ds, _, _, x, r => by
    cases x with
    | lst hs ha =>
      cases r
      obtain ⟨its, o, n, rv, ho, hc, hd⟩ := sqL_at hok KX hs
      obtain ⟨as, hr⟩ := Dw.readsAll hok KX ds _ its ha rv
      exact ⟨_, ReadsW.list ho hc hd hr⟩
  | .tuple ds, _, _, x, r => by
    cases x with
    | tup hs ha =>
      cases r
      obtain ⟨its, o, n, rv, ho, hc, hd⟩ := sqT_at hok KX hs
      obtain ⟨as, hr⟩ := Dw.readsAll hok KX ds _ its ha rv
      exact ⟨_, ReadsW.tuple ho hc hd hr⟩
  | .float _, _, _, x, _ => by cases x
  | .dict _, _, _, x, _ => by cases x
  | .bytearray _, _, _, x, _ => by cases x
  | .set _, _, _, x, _ => by cases x
  | .frozenset _, _, _, x, _ => by cases x
  | .obj _ _, _, _, x, _ => by cases x
theorem Dw.readsAll (hok : HOk P w H h) (KX : K.In h) : ∀ (ds : List WData) (vs : List V) (us : List Value), DwAll K H vs ds → Vals vs us → ∃ as, ReadsAllW R cl h us ds as
  | [], _, _, x, r => by
    cases x
    cases r
    exact ⟨_, ReadsAllW.nil⟩
  | d :: ds, _, _, x, r => by
    cases x with
    | cons h1 h2 =>
      cases r with
      | cons r1 r2 =>
        obtain ⟨as, q1⟩ := Dw.reads hok KX d _ _ h1 r1
        obtain ⟨bs, q2⟩ := Dw.readsAll hok KX ds _ _ h2 r2
        exact ⟨_, ReadsAllW.cons q1 q2⟩
end
end
mutual
/-- data that a codec tells -/
def plW : WData → Bool
  | .none => true
  | .bool _ => true
  | .int _ => true
  | .str _ => true
  | .bytes _ => true
  | .list xs => plWs xs
  | .tuple xs => plWs xs
  | _ => false
def plWs : List WData → Bool
  | [] => true
  | x :: r => plW x && plWs r
end
theorem plWs_map {α : Type} {f : α → WData} (h : ∀ a, plW (f a) = true) : ∀ l : List α, plWs (l.map f) = true
  | [] => rfl
  | x :: r => by
    show (plW (f x) && plWs (r.map f)) = true
    rw [h x, plWs_map h r] <;> rfl
theorem pl_enc : ∀ (c : Codec) (a : c.denote), plW (c.enc a) = true
  | .unit, _ => rfl
  | .bool, _ => rfl
  | .int _ _, _ => rfl
  | .nat _ _, _ => rfl
  | .u8, _ => rfl
  | .bytes _ _, _ => rfl
  | .text _ _ _ _, _ => rfl
  | .list _ _ c, a => plWs_map (fun x => pl_enc c x) a
  | .pair c d, a => by
    show (plW (c.enc a.1) && (plW (d.enc a.2) && true)) = true
    rw [pl_enc c a.1, pl_enc d a.2] <;> rfl
  | .triple c d e, a => by
    show (plW (c.enc a.1) && (plW (d.enc a.2.1) && (plW (e.enc a.2.2) && true))) = true
    rw [pl_enc c a.1, pl_enc d a.2.1, pl_enc e a.2.2] <;> rfl
  | .option c, none => rfl
  | .option c, some x => pl_enc c x
theorem pl_encAll : ∀ (cs : List Codec) (a : Codec.denoteAll cs), plWs (Codec.encAll cs a) = true
  | [], _ => rfl
  | c :: cs, a => by
    show (plW (c.enc a.1) && plWs (Codec.encAll cs a.2)) = true
    rw [pl_enc c a.1, pl_encAll cs a.2] <;> rfl
theorem weight_mem : ∀ {xs : List WData} {d : WData}, d ∈ xs → d.weight ≤ WData.weightAll xs
  | [], d, h => absurd h (by simp)
  | x :: r, d, h => by
    show d.weight ≤ x.weight + 1 + WData.weightAll r
    rcases List.mem_cons.mp h with e | m
    · rw [e]
      omega
    · have z := weight_mem m
      omega
def toV : Value → V
  | .none => .non
  | .bool b => .bl b
  | .int i _ => .int i
  | .str x _ => .str x
  | .bytes b _ => .byt b
  | .ref a => .ref a
  | _ => .non
def OkU (A : List Addr) : Value → Prop
  | .none => True
  | .bool _ => True
  | .int _ _ => True
  | .str _ _ => True
  | .bytes _ _ => True
  | .ref a => a ∈ A
  | _ => False
theorem OkU.mono {A B : List Addr} (h : ∀ a ∈ A, a ∈ B) : ∀ {u : Value}, OkU A u → OkU B u := fun {u} x => by
  cases u with
  | ref a => exact h a x
  | none => trivial
  | bool b => trivial
  | int i t => trivial
  | str s t => trivial
  | bytes b t => trivial
  | _ => exact False.elim x
theorem relV_toV {A : List Addr} {u : Value} (x : OkU A u) : RelV (toV u) u := by
  cases u with
  | ref a => rfl
  | none => rfl
  | bool b => rfl
  | int i t => exact ⟨t, rfl⟩
  | str s t => exact ⟨t, rfl⟩
  | bytes b t => exact ⟨t, rfl⟩
  | _ => exact False.elim x
theorem vals_toV {A : List Addr} : ∀ {vs : List Value}, (∀ u ∈ vs, OkU A u) → Vals (vs.map toV) vs
  | [], _ => .nil
  | u :: r, h => .cons (relV_toV (h u (List.mem_cons_self ..))) (vals_toV fun x hx => h x (List.mem_cons_of_mem _ hx))
def ArgOb (h : Heap) (A : List Addr) (a : Addr) : Prop := ∃ vs : List Value, vs.length ≤ sizeLine ∧ (∀ u ∈ vs, OkU A u) ∧
  (h.get? a = some { cls := .type "list", data := .seq vs.toArray } ∨ h.get? a = some { cls := .type "tuple", data := .seq vs.toArray })
theorem ArgOb.mono {h : Heap} {A B : List Addr} {a : Addr} (k : ∀ a ∈ A, a ∈ B) (x : ArgOb h A a) : ArgOb h B a := by
  obtain ⟨vs, h1, h2, h3⟩ := x
  exact ⟨vs, h1, fun u hu => (h2 u hu).mono k, h3⟩
theorem wellAll_len {P : Params} {h : Heap} : ∀ {vs : List Value} {ds : List WData}, WellAll P h vs ds → vs.length = ds.length
  | _, _, .nil => rfl
  | _, _, .cons _ b => by
    show _ + 1 = _ + 1
    rw [wellAll_len b]
theorem well_list {P : Params} {h : Heap} {v : Value} {ds : List WData} (x : Well P h v (.list ds)) : ∃ (a : Addr) (vs : List Value), v = .ref a ∧ h.get? a = some { cls := .type "list", data := .seq vs.toArray } ∧ WellAll P h vs ds := by
  cases x with
  | list ho hall => exact ⟨_, _, rfl, ho, hall⟩
theorem well_tuple {P : Params} {h : Heap} {v : Value} {ds : List WData} (x : Well P h v (.tuple ds)) : ∃ (a : Addr) (vs : List Value), v = .ref a ∧ h.get? a = some { cls := .type "tuple", data := .seq vs.toArray } ∧ WellAll P h vs ds := by
  cases x with
  | tuple ho hall => exact ⟨_, _, rfl, ho, hall⟩
theorem well_cons {P : Params} {h : Heap} {us : List Value} {d : WData} {ds : List WData} (x : WellAll P h us (d :: ds)) : ∃ (v : Value) (vs : List Value), us = v :: vs ∧ Well P h v d ∧ WellAll P h vs ds := by
  cases x with
  | cons a b => exact ⟨_, _, rfl, a, b⟩
theorem line_of {n : Nat} (h : n ≤ 1048576) : n ≤ sizeLine := Nat.le_trans h (by decide)
section
variable {P : Params} {h : Heap}
mutual
theorem area_one : ∀ (d : WData) (v : Value), Well P h v d → plW d = true → d.weight ≤ 1048576 → ∃ A : List Addr, OkU A v ∧ ∀ a ∈ A, ArgOb h A a
  | .none, _, x, _, _ => by
    cases x
    exact ⟨[], trivial, fun a m => absurd m (by simp)⟩
  | .bool b, _, x, _, _ => by
    cases x
    exact ⟨[], trivial, fun a m => absurd m (by simp)⟩
  | .int i, _, x, _, _ => by
    cases x
    exact ⟨[], trivial, fun a m => absurd m (by simp)⟩
  | .str s, _, x, _, _ => by
    cases x
    exact ⟨[], trivial, fun a m => absurd m (by simp)⟩
  | .bytes b, _, x, _, _ => by
    cases x
    exact ⟨[], trivial, fun a m => absurd m (by simp)⟩
  | .list ds, _, x, p, z => by
    obtain ⟨a, vs, rfl, ho, hall⟩ := well_list x
    have z2 : WData.weightAll ds ≤ 1048576 := z
    obtain ⟨A, h1, h2⟩ := area_all ds _ hall p fun d hd => Nat.le_trans (weight_mem hd) z2
    have k : ∀ b ∈ A, b ∈ a :: A := fun b hb => List.mem_cons_of_mem _ hb
    refine ⟨a :: A, List.mem_cons_self .., fun b hb => ?_⟩
    rcases List.mem_cons.mp hb with e | m
    · rw [e]
      exact ⟨vs, line_of (by rw [wellAll_len hall]; exact Nat.le_trans (PySem.W.length_le_weightAllW ds) z2), fun u hu => (h1 u hu).mono k, .inl ho⟩
    · exact (h2 b m).mono k
  | .tuple ds, _, x, p, z => by
    obtain ⟨a, vs, rfl, ho, hall⟩ := well_tuple x
    have z2 : WData.weightAll ds ≤ 1048576 := z
    obtain ⟨A, h1, h2⟩ := area_all ds _ hall p fun d hd => Nat.le_trans (weight_mem hd) z2
    have k : ∀ b ∈ A, b ∈ a :: A := fun b hb => List.mem_cons_of_mem _ hb
    refine ⟨a :: A, List.mem_cons_self .., fun b hb => ?_⟩
    rcases List.mem_cons.mp hb with e | m
    · rw [e]
      exact ⟨vs, line_of (by rw [wellAll_len hall]; exact Nat.le_trans (PySem.W.length_le_weightAllW ds) z2), fun u hu => (h1 u hu).mono k, .inr ho⟩
    · exact (h2 b m).mono k
  | .float _, _, _, p, _ => Bool.noConfusion (show false = true from p)
  | .dict _, _, _, p, _ => Bool.noConfusion (show false = true from p)
  | .bytearray _, _, _, p, _ => Bool.noConfusion (show false = true from p)
  | .set _, _, _, p, _ => Bool.noConfusion (show false = true from p)
  | .frozenset _, _, _, p, _ => Bool.noConfusion (show false = true from p)
  | .obj _ _, _, _, p, _ => Bool.noConfusion (show false = true from p)
theorem area_all : ∀ (ds : List WData) (vs : List Value), WellAll P h vs ds → plWs ds = true → (∀ d ∈ ds, d.weight ≤ 1048576) → ∃ A : List Addr, (∀ u ∈ vs, OkU A u) ∧ ∀ a ∈ A, ArgOb h A a
  | [], _, x, _, _ => by
    cases x
    exact ⟨[], fun u m => absurd m (by simp), fun a m => absurd m (by simp)⟩
  | d :: ds, _, x, p, z => by
    obtain ⟨v, vs, rfl, x1, x2⟩ := well_cons x
    have q : plW d = true ∧ plWs ds = true := Bool.and_eq_true_iff.mp p
    obtain ⟨A, a1, a2⟩ := area_one d v x1 q.1 (z d (List.mem_cons_self ..))
    obtain ⟨B, b1, b2⟩ := area_all ds vs x2 q.2 fun e he => z e (List.mem_cons_of_mem _ he)
    have kA : ∀ b ∈ A, b ∈ A ++ B := fun b hb => List.mem_append.mpr (.inl hb)
    have kB : ∀ b ∈ B, b ∈ A ++ B := fun b hb => List.mem_append.mpr (.inr hb)
    refine ⟨A ++ B, fun u hu => ?_, fun b hb => ?_⟩
    · rcases List.mem_cons.mp hu with e | m
      · rw [e]
        exact a1.mono kA
      · exact (b1 u m).mono kB
    · rcases List.mem_append.mp hb with m | m
      · exact (a2 b m).mono kA
      · exact (b2 b m).mono kB
end
end
def hoOf (o : Obj) : Option HO := match o.data with
  | .seq vs _ => if (o.cls == Value.type "list") = true then some (.frz o (.lst (vs.toList.map toV))) else some (.frz o (.tup (vs.toList.map toV)))
  | _ => none
def argH (K : PySem.W.Frag) (h : Heap) (A : List Addr) : Hp := fun b => if b ∈ A then (if (K.lookup b).isNone = true then (h.get? b).bind hoOf else none) else none
def OnlyF (H : Hp) : Prop := ∀ b, H b = none ∨ ∃ o u, H b = some (.frz o u)
theorem hoOf_lst (vs : List Value) : hoOf { cls := .type "list", data := .seq vs.toArray } = some (.frz { cls := .type "list", data := .seq vs.toArray } (.lst (vs.map toV))) := by
  show (if (Value.type "list" == Value.type "list") = true then some (HO.frz { cls := .type "list", data := .seq vs.toArray } (.lst (vs.toArray.toList.map toV))) else some (HO.frz { cls := .type "list", data := .seq vs.toArray } (.tup (vs.toArray.toList.map toV)))) = _
  rw [if_pos (beq_self_eq_true _)]
theorem hoOf_tup (vs : List Value) : hoOf { cls := .type "tuple", data := .seq vs.toArray } = some (.frz { cls := .type "tuple", data := .seq vs.toArray } (.tup (vs.map toV))) := by
  show (if (Value.type "tuple" == Value.type "list") = true then some (HO.frz { cls := .type "tuple", data := .seq vs.toArray } (.lst (vs.toArray.toList.map toV))) else some (HO.frz { cls := .type "tuple", data := .seq vs.toArray } (.tup (vs.toArray.toList.map toV)))) = _
  rw [if_neg (by decide)]
section
variable {P : Program} {w : World} {K : PySem.W.Frag} {h : Heap} {A : List Addr}
theorem argH_at {b : Addr} {o : Obj} (hb : b ∈ A) (hk : K.lookup b = none) (e : h.get? b = some o) : argH K h A b = hoOf o := by
  unfold argH
  rw [if_pos hb, hk, if_pos (show (none : Option Obj).isNone = true from rfl), e] <;> rfl
theorem of_argH {b : Addr} {u : HO} (q : argH K h A b = some u) : b ∈ A ∧ K.lookup b = none := by
  unfold argH at q
  by_cases hb : b ∈ A
  · rw [if_pos hb] at q
    cases hk : K.lookup b with
    | none => exact ⟨hb, rfl⟩
    | some o =>
      rw [hk, if_neg (by simp)] at q
      cases q
  · rw [if_neg hb] at q
    cases q
theorem argH_is (ar : ∀ a ∈ A, ArgOb h A a) {b : Addr} {u : HO} (q : argH K h A b = some u) : K.lookup b = none ∧ ∃ vs : List Value, vs.length ≤ sizeLine ∧ (∀ u ∈ vs, OkU A u) ∧
    ((h.get? b = some { cls := .type "list", data := .seq vs.toArray } ∧ u = .frz { cls := .type "list", data := .seq vs.toArray } (.lst (vs.map toV))) ∨
     (h.get? b = some { cls := .type "tuple", data := .seq vs.toArray } ∧ u = .frz { cls := .type "tuple", data := .seq vs.toArray } (.tup (vs.map toV)))) := by
  obtain ⟨hb, hk⟩ := of_argH q
  obtain ⟨vs, h1, h2, h3⟩ := ar b hb
  refine ⟨hk, vs, h1, h2, ?_⟩
  rcases h3 with e | e
  · rw [argH_at hb hk e, hoOf_lst] at q
    exact .inl ⟨e, (Option.some.inj q).symm⟩
  · rw [argH_at hb hk e, hoOf_tup] at q
    exact .inr ⟨e, (Option.some.inj q).symm⟩
theorem argH_only (ar : ∀ a ∈ A, ArgOb h A a) : OnlyF (argH K h A) := fun b => by
  cases q : argH K h A b with
  | none => exact .inl rfl
  | some u =>
    obtain ⟨_, vs, _, _, ⟨_, e⟩ | ⟨_, e⟩⟩ := argH_is ar q
    · exact .inr ⟨_, _, by rw [e]⟩
    · exact .inr ⟨_, _, by rw [e]⟩
theorem argH_ok (ar : ∀ a ∈ A, ArgOb h A a) : HOk P w (argH K h A) h := fun b u q => by
  obtain ⟨_, vs, h1, h2, ⟨e, rfl⟩ | ⟨e, rfl⟩⟩ := argH_is ar q
  · exact ⟨e, by rw [List.length_map]; exact h1, vs, _, vals_toV h2, e⟩
  · exact ⟨e, by rw [List.length_map]; exact h1, vs, vals_toV h2, _, e, rfl, _, rfl⟩
theorem seq_inj {c c' : Value} {vs us : List Value} (e : (some { cls := c, data := .seq vs.toArray } : Option Obj) = some { cls := c', data := .seq us.toArray }) : c = c' ∧ vs = us := by
  have e1 := Option.some.inj e
  have e2 : c = c' := congrArg Obj.cls e1
  have e3 : Data.seq vs.toArray = Data.seq us.toArray := congrArg Obj.data e1
  injection e3 with e4
  refine ⟨e2, ?_⟩
  have e5 := congrArg Array.toList e4
  simpa using e5
theorem argL (KX : K.In h) (ar : ∀ a ∈ A, ArgOb h A a) {a : Addr} {vs : List Value} (ha : a ∈ A) (e : h.get? a = some { cls := .type "list", data := .seq vs.toArray }) : (∀ u ∈ vs, OkU A u) ∧ SqL K (argH K h A) a (vs.map toV) := by
  obtain ⟨us, h1, h2, h3⟩ := ar a ha
  have hu : us = vs := by
    rcases h3 with q | q
    · rw [e] at q
      exact (seq_inj q).2.symm
    · rw [e] at q
      exact absurd (Value.type.inj (seq_inj q).1) (by decide)
  subst hu
  refine ⟨h2, ?_⟩
  cases hk : K.lookup a with
  | none => exact .inl (.inr ⟨_, by rw [argH_at ha hk e, hoOf_lst]⟩)
  | some o =>
    have e2 := KX a o hk
    rw [e] at e2
    obtain rfl := Option.some.inj e2
    exact .inr ⟨_, us.toArray, _, hk, rfl, rfl, rfl, by rw [List.size_toArray]; exact h1, by simpa using vals_toV h2⟩
theorem argT (KX : K.In h) (ar : ∀ a ∈ A, ArgOb h A a) {a : Addr} {vs : List Value} (ha : a ∈ A) (e : h.get? a = some { cls := .type "tuple", data := .seq vs.toArray }) : (∀ u ∈ vs, OkU A u) ∧ SqT K (argH K h A) a (vs.map toV) := by
  obtain ⟨us, h1, h2, h3⟩ := ar a ha
  have hu : us = vs := by
    rcases h3 with q | q
    · rw [e] at q
      exact absurd (Value.type.inj (seq_inj q).1) (by decide)
    · rw [e] at q
      exact (seq_inj q).2.symm
  subst hu
  refine ⟨h2, ?_⟩
  cases hk : K.lookup a with
  | none => exact .inl (.inr ⟨_, by rw [argH_at ha hk e, hoOf_tup]⟩)
  | some o =>
    have e2 := KX a o hk
    rw [e] at e2
    obtain rfl := Option.some.inj e2
    exact .inr ⟨_, us.toArray, _, hk, rfl, rfl, by rw [List.size_toArray]; exact h1, by simpa using vals_toV h2⟩
mutual
theorem dw_one {Pm : Params} (KX : K.In h) (ar : ∀ a ∈ A, ArgOb h A a) : ∀ (d : WData) (v : Value), Well Pm h v d → plW d = true → OkU A v → Dw K (argH K h A) (toV v) d
  | .none, _, x, _, _ => by
    cases x
    exact .non
  | .bool b, _, x, _, _ => by
    cases x
    exact .bl b
  | .int i, _, x, _, _ => by
    cases x
    exact .int i
  | .str s, _, x, _, _ => by
    cases x
    exact .str s
  | .bytes b, _, x, _, _ => by
    cases x
    have z := Dw.byt (K := K) (H := argH K h A) b.toArray
    exact z
  | .list ds, _, x, p, hu => by
    obtain ⟨a, vs, rfl, ho, hall⟩ := well_list x
    obtain ⟨h2, hs⟩ := argL KX ar hu ho
    exact .lst hs (dw_all KX ar ds _ hall p h2)
  | .tuple ds, _, x, p, hu => by
    obtain ⟨a, vs, rfl, ho, hall⟩ := well_tuple x
    obtain ⟨h2, hs⟩ := argT KX ar hu ho
    exact .tup hs (dw_all KX ar ds _ hall p h2)
  | .float _, _, _, p, _ => Bool.noConfusion (show false = true from p)
  | .dict _, _, _, p, _ => Bool.noConfusion (show false = true from p)
  | .bytearray _, _, _, p, _ => Bool.noConfusion (show false = true from p)
  | .set _, _, _, p, _ => Bool.noConfusion (show false = true from p)
  | .frozenset _, _, _, p, _ => Bool.noConfusion (show false = true from p)
  | .obj _ _, _, _, p, _ => Bool.noConfusion (show false = true from p)
theorem dw_all {Pm : Params} (KX : K.In h) (ar : ∀ a ∈ A, ArgOb h A a) : ∀ (ds : List WData) (vs : List Value), WellAll Pm h vs ds → plWs ds = true → (∀ u ∈ vs, OkU A u) → DwAll K (argH K h A) (vs.map toV) ds
  | [], _, x, _, _ => by
    cases x
    exact .nil
  | d :: ds, _, x, p, hu => by
    obtain ⟨v, vs, rfl, x1, x2⟩ := well_cons x
    have q : plW d = true ∧ plWs ds = true := Bool.and_eq_true_iff.mp p
    exact .cons (dw_one KX ar d v x1 q.1 (hu _ (List.mem_cons_self ..))) (dw_all KX ar ds vs x2 q.2 fun u m => hu u (List.mem_cons_of_mem _ m))
end
end
theorem spec_call {P : Program} {w : World} {K : PySem.W.Frag} {mg mb : Str → Option Value} {CX : CXT} {k : Nat} {fa : Addr} {fd : FuncData} {ps : List Str} {sp : Sp} {s₁ : Shared} {vals : List Value} {ds : List WData} {R : PySem.W.WRecords} {cl : Str → Option Addr} {d0 : WData}
    (KX : K.In s₁.heap) (hns : s₁.heap.Ns mainGlobals mg) (hb : s₁.heap.Ns builtinsNs mb) (hbb : ∀ x : Str, x ≠ "__name__" → mb x = bootBuiltins x) (hlim : s₁.heap.NoLimit) (hg : s₁.gens = #[])
    (hwl : WellAll w.params s₁.heap vals ds) (hpl : plWs ds = true) (hwt : ∀ d ∈ ds, d.weight ≤ 1048576) (hr : Room k callerA)
    (F : ∀ base : Heap, K.In base → base.Ns mainGlobals mg → FnOk P w K mg base CX k fa fd ps sp) (hbind : ∀ (s : Shared) (us : List Value), us.length = ps.length → BindsTo s fd ⟨us, []⟩ (ps.zip us)) (hlen : ds.length = ps.length)
    (hsp : ∀ (H : Hp) (xs : List V), OnlyF H → DwAll K H xs ds → sp xs H (fun v H' => Dw K H' v d0) fun _ _ _ => False)
    (hCX : ∀ H e s', CX [] H s₁ (fun _ _ _ => False) e s' → False) :
    codeAny (model P w) callerA (.call (.ref fa) ⟨vals, []⟩) (fun r s' => ∃ u as, r = .ok (.ret u) ∧ ReadsW R cl s'.heap u d0 as ∧ OldK s₁.heap s'.heap ∧ s'.os = s₁.os ∧ AllBare s'.gens) s₁ := by
  obtain ⟨A, ho, ar⟩ := area_all ds vals hwl hpl hwt
  have hO : OnlyF (argH K s₁.heap A) := argH_only ar
  have hok : HOk P w (argH K s₁.heap A) s₁.heap := argH_ok ar
  have hS := dw_all KX ar ds vals hwl hpl ho
  have hV := vals_toV ho
  have hK : ∀ b u, argH K s₁.heap A b = some u → K.lookup b = none := fun b u q => (argH_is ar q).1
  have noA : ∀ {b : Addr} {o : Obj} {es : Array DictEntry} {ep : Nat}, s₁.heap.get? b = some o → o.data = .dict es ep → argH K s₁.heap A b = none := fun {b o es ep} e d => by
    cases q : argH K s₁.heap A b with
    | none => rfl
    | some u =>
      obtain ⟨_, vs, _, _, ⟨e2, _⟩ | ⟨e2, _⟩⟩ := argH_is ar q
      · rw [e2] at e
        cases e
        have d' : Data.seq vs.toArray _ = Data.dict es ep := d
        cases d'
      · rw [e2] at e
        cases e
        have d' : Data.seq vs.toArray _ = Data.dict es ep := d
        cases d'
  generalize argH K s₁.heap A = H at hO hok hS hK noA
  have base_of : ∀ {b : Addr} {o : Obj}, s₁.heap.get? b = some o → H b = none → (hidT s₁.heap H).get? b = some o := fun e n => hidT_get e n
  have nsK : ∀ {b : Addr} {m : Str → Option Value}, s₁.heap.Ns b m → (hidT s₁.heap H).Ns b m := fun {b m} ⟨o, es, ep, e, d, r⟩ => ⟨o, es, ep, base_of e (noA e d), d, r⟩
  have nK : ∀ b o, K.lookup b = some o → H b = none := fun b o e => by
    cases q : H b with
    | none => rfl
    | some u =>
      rw [hK b u q] at e
      cases e
  have hKb : K.In (hidT s₁.heap H) := fun b o e => base_of (KX b o e) (nK b o e)
  have hM : Mod K mg (hidT s₁.heap H) := ⟨hKb, nsK hns, ⟨mb, nsK hb, hbb⟩, let ⟨mc, h1, h2⟩ := hlim; ⟨mc, nsK h1, h2⟩⟩
  have e0 : Env0 P w K mg (hidT s₁.heap H) callerA [] s₁ H := ⟨rfl, hM, fun b o e => of_hidT e, Nat.le_of_eq (hidT_size _ _), trivial, fun b hb => absurd (show b ∈ ([] : List Addr) from hb) (by simp), hok, .of_eq hg⟩
  have hl : vals.length = ps.length := by rw [wellAll_len hwl]; exact hlen
  refine codeAny_mono ((F _ hKb (nsK hns)).run callerA [] s₁ H ⟨vals, []⟩ vals (vals.map toV) _ _ hr e0 (hbind s₁ vals hl) hV (hsp H _ hO hS)) fun r s' x => ?_
  cases r with
  | error e => exact (hCX H e s' x).elim
  | ok fl =>
    cases fl with
    | next => exact False.elim x
    | brk => exact False.elim x
    | cont => exact False.elim x
    | ret u =>
      obtain ⟨v, H', os, bare, un, hok', r', q⟩ := x
      have kept : ∀ b o, s₁.heap.get? b = some o → s'.heap.get? b = some o := fun b o e => by
        cases q2 : H b with
        | none => exact un.keep b o e q2 (by intro z; exact absurd (show b ∈ ([] : List Addr) from z) (by simp)) (by simp)
        | some u2 =>
          rcases hO b with z | ⟨ob, u3, z⟩
          · rw [q2] at z
            cases z
          · have z2 := un.frzs b ob _ z
            obtain ⟨e1, _⟩ := hok b _ z
            obtain ⟨e2, _⟩ := hok' b _ z2
            rw [e] at e1
            cases e1
            exact e2
      have KX' : K.In s'.heap := fun b o e => kept b o (KX b o e)
      obtain ⟨as, hrd⟩ := Dw.reads (R := R) (cl := cl) hok' KX' d0 v u q r'
      exact ⟨u, as, rfl, hrd, OldK.of_keep kept, os, bare⟩
theorem layable_weight {ds : List WData} (h : WData.layableAll ds = true) : ∀ d ∈ ds, d.weight ≤ 1048576 := fun d hd =>
  (PySem.W.layableW_iff.mp (List.all_eq_true.mp h d hd)).2.2
theorem encAll_len : ∀ (cs : List Codec) (a : Codec.denoteAll cs), (Codec.encAll cs a).length = cs.length
  | [], _ => rfl
  | c :: cs, a => by
    show (Codec.encAll cs a.2).length + 1 = cs.length + 1
    rw [encAll_len cs a.2]
theorem walk_spec {r : OpenSpec} {k : Nat} {q : Program} {loose : List Str} {XP : (Str → Option Value) → Heap → Prop} {YP : World → Heap → Prop} {d : DefRec} {K : Params → PySem.W.Frag} {CX : World → CXT} {ps : List Str} {sp : World → Sp}
    (hwell : r.wellSaid = true) (hdf : d.params.defaults = []) (hlen : r.args.length = ps.length) (hr : Room k callerA)
    (hY : ∀ (w : World) (h : Heap), YP w h → (K w.params).In h)
    (F : ∀ (w : World) (mg : Str → Option Value) (fa : Addr) (h : Heap), YP w h → (K w.params).In h → h.Ns mainGlobals mg → mg d.name = some (.ref fa) →
      ∃ fd : FuncData, (∀ (s : Shared) (us : List Value), us.length = ps.length → BindsTo s fd ⟨us, []⟩ (ps.zip us)) ∧
        ∀ base : Heap, (K w.params).In base → base.Ns mainGlobals mg → FnOk r.prog w (K w.params) mg base (CX w) k fa fd ps (sp w))
    (hsp : ∀ (w : World) (H : Hp) (xs : List V) (a : Codec.denoteAll r.args), OnlyF H → Codec.withinAll r.args a = true → Codec.app r.args r.asked a = true → DwAll (K w.params) H xs (Codec.encAll r.args a) →
      sp w xs H (fun v H' => Dw (K w.params) H' v (r.ret.enc (Codec.app r.args r.f a))) fun _ _ _ => False)
    (hCX : ∀ (w : World) (H : Hp) (s : Shared) (e : Value) (s' : Shared), CX w [] H s (fun _ _ _ => False) e s' → False) :
    PySem.W.WalkOS q loose XP YP r d [] (fun f vs => PySem.call f vs) := by
  intro w s_0 s₁ mg mb G Y fa o pm cd doc dV kV ho hd hcd hD hmg hg args vals as hpre hlay hrd hwl hlo
  obtain ⟨a, e1, e2⟩ := PySem.W.os_pre_some hpre
  obtain ⟨e3, hwi⟩ := Codec.encAll_of_decAll r.args args a e1
  subst e3
  have KX := hY w _ Y
  obtain ⟨fd, hb, hF⟩ := F w mg fa _ Y KX G.T.g hmg
  refine PySem.W.enter_call (codeAny_mono (spec_call (R := []) (cl := classAt s_0.heap) (d0 := r.ret.enc (Codec.app r.args r.f a)) KX G.T.g G.T.b G.T.builtins G.T.nolimit hg hwl (pl_encAll _ _) (layable_weight hlay) hr hF hb (by rw [encAll_len]; exact hlen)
    (fun H xs hO hS => hsp w H xs a hO hwi e2 hS) fun H e s' => hCX w H s₁ e s') fun r' s' hq => ?_)
  obtain ⟨u, as', rfl, h1, h2, h3, h4⟩ := hq
  exact ⟨.inl ⟨u, _, as', rfl, fun _ => rfl, h1, (OpenSpec.post_iff hwell hwi _ _).mpr rfl, fun z => Bool.noConfusion (show false = true from z)⟩, h2, h3, h4⟩
theorem walk_specK {r : OpenSpec} {k : Nat} {q : Program} {loose : List Str} {XP : (Str → Option Value) → Heap → Prop} {YP : World → Heap → Prop} {d : DefRec} {K : Params → PySem.W.Frag} {CX : CXT} {ps : List Str} {sp : PySem.W.Frag → Sp}
    (hwell : r.wellSaid = true) (hdf : d.params.defaults = []) (hlen : r.args.length = ps.length) (hr : Room k callerA)
    (hY : ∀ (w : World) (h : Heap), YP w h → (K w.params).In h)
    (F : ∀ (w : World) (mg : Str → Option Value) (fa : Addr) (h : Heap), YP w h → (K w.params).In h → h.Ns mainGlobals mg → mg d.name = some (.ref fa) →
      ∃ fd : FuncData, (∀ (s : Shared) (us : List Value), us.length = ps.length → BindsTo s fd ⟨us, []⟩ (ps.zip us)) ∧
        ∀ base : Heap, (K w.params).In base → base.Ns mainGlobals mg → FnOk r.prog w (K w.params) mg base CX k fa fd ps (sp (K w.params)))
    (hsp : ∀ (K : PySem.W.Frag) (H : Hp) (xs : List V) (a : Codec.denoteAll r.args), OnlyF H → Codec.withinAll r.args a = true → Codec.app r.args r.asked a = true → DwAll K H xs (Codec.encAll r.args a) →
      sp K xs H (fun v H' => Dw K H' v (r.ret.enc (Codec.app r.args r.f a))) fun _ _ _ => False)
    (hCX : ∀ (H : Hp) (s : Shared) (e : Value) (s' : Shared), CX [] H s (fun _ _ _ => False) e s' → False) :
    PySem.W.WalkOS q loose XP YP r d [] (fun f vs => PySem.call f vs) :=
  walk_spec (K := K) (CX := fun _ => CX) (sp := fun w => sp (K w.params)) hwell hdf hlen hr hY F (fun w H xs a h1 h2 h3 h4 => hsp (K w.params) H xs a h1 h2 h3 h4) fun _ H s e s' => hCX H s e s'
end L2
-- rests on (row put in by the clerk, for the bench that shows a file only what it spells): KE.SpHead KE.OsShapes
end
set_option Elab.async false
set_option maxRecDepth 100000
set_option maxHeartbeats 2000000
namespace Lw
open PySem PySem.Spec PyProof.Rows L2
open PySem.W (WData Codec)
section
variable {X : Cx}
def CMulB (i j : Int) : Prop := IntMulOk i j
theorem op_mulB : OpR X (binaryOp .Mult) (rI CMulB fun i j => .int (i * j)) := opI fun _ _ _ _ _ _ _ hc q => mul_int q hc
def CDivB (i j : Int) : Prop := 0 < j ∧ Builtin.divisionGoesByPylong i j = false
theorem op_fdivB : OpR X (binaryOp .FloorDiv) (rI CDivB fun i j => .int (i / j)) := opI fun i j _ _ _ _ _ hc q => by
  have e : i.fdiv j = i / j := Int.fdiv_eq_ediv_of_nonneg i (Int.le_of_lt hc.1)
  exact floordiv_int (Int.ne_of_gt hc.1) (by rw [e]; exact q) (.inl hc.2)
end
theorem bits_of_lt {k : Int} {n : Nat} (h : k.natAbs < 2 ^ n) : Builtin.Int.intBits k ≤ n := by
  unfold Builtin.Int.intBits
  split
  · exact Nat.zero_le _
  · rename_i hk
    have h0 : k.natAbs ≠ 0 := fun e => by
      have : k = 0 := by omega
      subst this
      simp at hk
    have : k.natAbs.log2 < n := (Nat.log2_lt h0).mpr h
    omega
theorem mulOk {a b : Int} {m n : Nat} (ha : a.natAbs < 2 ^ m) (hb : b.natAbs < 2 ^ n) (h : m + n ≤ 134217728) : IntMulOk a b := mulOk_of_bits (bits_of_lt ha) (bits_of_lt hb) h
theorem same_new {H : Hp} {p : Addr} {o : HO} (h : H p = Option.none) : Same H (upd H p o) := fun b u e => by
  rw [upd_ne (ne_of_none e h)]
  exact e
theorem Same.tup {K : PySem.W.Frag} {H H' : Hp} {a : Addr} {xs : List V} (e : Same H H') (h : SqT K H a xs) : SqT K H' a xs := by
  rcases h with (h | ⟨o, h⟩) | h
  · exact .inl (.inl (e _ _ h))
  · exact .inl (.inr ⟨o, e _ _ h⟩)
  · exact .inr h
mutual
theorem same_dw {K : PySem.W.Frag} {H H' : Hp} (e : Same H H') : ∀ {v : V} {d : WData}, Dw K H v d → Dw K H' v d
  | _, _, .non => .non
  | _, _, .bl b => .bl b
  | _, _, .int i => .int i
  | _, _, .str x => .str x
  | _, _, .byt b => .byt b
  | _, _, .lst h hs => .lst (e.seq h) (same_dws e hs)
  | _, _, .tup h hs => .tup (Same.tup e h) (same_dws e hs)
theorem same_dws {K : PySem.W.Frag} {H H' : Hp} (e : Same H H') : ∀ {vs : List V} {ds : List WData}, DwAll K H vs ds → DwAll K H' vs ds
  | _, _, .nil => .nil
  | _, _, .cons h hs => .cons (same_dw e h) (same_dws e hs)
end
theorem for_enum {K : PySem.W.Frag} {a : Addr} {xs : List V} {g : TG} {tb : TS} {D : Ends} {σ : L2.St} {H : Hp} (Pv : Nat → L2.St → Hp → Prop) (h0 : Pv 0 σ H) (hl : ∀ i σ H, i ≤ xs.length → Pv i σ H → SqL K H a xs)
    (hs : ∀ i x σ H T, xs[i]? = some x → Pv i σ H → H T = Option.none → g (.ref T) σ (upd H T (.tup [.int (i : Nat), x])) fun σ2 H2 => tb { D with nx := Pv (i + 1), ct := Pv (i + 1), bk := D.nx } σ2 H2) (hd : ∀ σ H, Pv xs.length σ H → D.nx σ H) :
    ∃ W : Nat → Nat → L2.St → Hp → Prop, (∃ m, W 0 m σ H) ∧ ∀ i m σ H, W i m σ H →
      ((Ite K a).stop i H ∧ D.nx σ H) ∨ ((Ite K a).go i H ∧ ∃ N : L2.St → Hp → Prop, (∀ σ' H', N σ' H' → ∃ m', m' < m ∧ W (i + 1) m' σ' H') ∧ ∀ x H', (Ite K a).yld i H x H' → g x σ H' fun σ2 H2 => tb { D with nx := N, ct := N, bk := D.nx } σ2 H2) := by
  refine ⟨fun i m σ H => m = xs.length - i ∧ i ≤ xs.length ∧ Pv i σ H, ⟨xs.length, by simp, Nat.zero_le _, h0⟩, ?_⟩
  rintro i m σ H ⟨rfl, hi, p⟩
  have q := hl i σ H hi p
  by_cases hlt : i < xs.length
  · refine .inr ⟨⟨xs, xs[i], q, by simp [hlt]⟩, Pv (i + 1), fun σ' H' p' => ⟨xs.length - (i + 1), by omega, rfl, hlt, p'⟩, fun x H' y => ?_⟩
    obtain ⟨T, x', rfl, hT, rfl, y⟩ := y
    exact hs i x' σ H T (y xs q) p hT
  · have e : i = xs.length := by omega
    subst e
    exact .inl ⟨⟨xs, q, Nat.le_refl _⟩, hd σ H p⟩
theorem int_at {ns : List Int} {i : Nat} {v : V} (h : (ns.map V.int)[i]? = some v) : ∃ z, ns[i]? = some z ∧ v = V.int z := by
  rw [List.getElem?_map] at h
  cases e : ns[i]? with
  | none => rw [e] at h; cases h
  | some z => rw [e] at h; exact ⟨z, rfl, (Option.some.inj h).symm⟩
end Lw
namespace Lw
open PySem PySem.Spec PyProof.Rows L2
section
variable {X : Cx}
theorem pt_and {a b : Expr} {rest : List Expr} {pos : Pos} {tA tB' : TT} (ha : PT X a tA) (hb : PW X (.BoolOp .And (b :: rest) pos) tB') : PT X (.BoolOp .And (a :: b :: rest) pos) (tAnd tA tB') := (pw_and ha hb).pt
theorem pt_or {a b : Expr} {rest : List Expr} {pos : Pos} {tA tB' : TT} (ha : PT X a tA) (hb : PW X (.BoolOp .Or (b :: rest) pos) tB') : PT X (.BoolOp .Or (a :: b :: rest) pos) (tOr tA tB') := (pw_or ha hb).pt
end
end Lw
namespace Lw
open PySem PySem.Spec PyProof.Rows L2
/-- a def of the text that keeps its promise -/
structure Def (P : Program) (w : World) (K : PySem.W.Frag) (mg : Str → Option Value) (base : Heap) (x : Str) (k : Nat) (ps : List Str) (sp : Sp) : Prop where
  ex : ∃ (f : Addr) (fd : FuncData), FnOk P w K mg base CX0 k f fd ps sp ∧ mg x = some (.ref f) ∧ PySem.W.keepIn K (.ref f) = true ∧ Binds K fd ps [] ∧ ∃ (oc : Value) (od : Option Addr) (sl : Array (Option Value)), K.lookup f = some ⟨oc, od, .func fd, sl⟩
/-- a def as it stands, its name bound -/
structure At (K : PySem.W.Frag) (mg : Str → Option Value) (x : Str) (st : Stmt) (ps : List Str) : Prop where
  ex : ∃ (f : Addr) (fd : FuncData), Fun K x x st f fd ∧ mg x = some (.ref f) ∧ Binds K fd ps []
section
variable {X : Cx}
theorem pe_gE {x : Str} {i : Int} {pos : Pos} (hg : Gl X x) (hm : ∃ t, X.mg x = some (.int i t)) (hd : (x == ("__debug__" : Str)) = false := by decide) : PE X (.Name x pos) (tC (.int i)) := by
  obtain ⟨t, hm⟩ := hm
  exact pe_glob hg hm ⟨t, rfl⟩ hd
theorem pe_callD {x : Str} {k j : Nat} {ps : List Str} {sp : Sp} {e : Expr} {es : List Expr} {t : TA} {p pos : Pos} (C : Def X.prog X.w X.K X.mg X.base x k ps sp) (hr : Room j X.A) (ha : PA X (e :: es) t) (hk : k ≤ j := by decide) (hg : Gl X x := by rfl)
    (hdb : (x == ("__debug__" : Str)) = false := by decide) (he : starEach (e :: es) X.env = (false, eval e X.env) :: starEach es X.env := by rfl) (hpl : (backTo pos (starEach es X.env)).any (·.1) = false := by rfl) :
    PE X (.Call (.Name x p) (e :: es) [] pos) (tCall sp [] E0 t) := by
  obtain ⟨f, fd, F, m, kp, b, _⟩ := C.ex
  exact pe_call F (hr.mono hk) hg m kp b .nil pass0 ha hdb he hpl
end
section
variable {P : Program} {w : World} {K : PySem.W.Frag} {mg : Str → Option Value} {base : Heap}
theorem At.ok {x : Str} {st : Stmt} {N ps : List Str} {k : Nat} {sp : Sp} (F : At K mg x st ps) (S : FnScope N ps (defScope st)) (len : ∀ vs H Q E, sp vs H Q E → vs.length = ps.length)
    (hbody : ∀ (f : Addr) (cdv : Value) (A : Around) (outer : List Env) (s : Shared) (H : Hp) (vs : List V) (Q : VK) (E : XK), Room k (A.deeper (envOfC x (defScope st) s.heap.objs.size f cdv)) → sp vs H Q E →
      ∃ t, PSs (cxOf CX0 P w K mg base N x (defScope st) f cdv A outer s H E).nox (defBody st) t ∧ t { nx := fun _ H' => Q .non H', rt := Q } (start N vs) H) : Def P w K mg base x (k + 1) ps sp := by
  obtain ⟨f, fd, F, m, b⟩ := F.ex
  obtain ⟨oc, od, _, _, _, _, _, _, sl, _, lk, _⟩ := F.ex
  exact ⟨f, fd, F.ok S len (hbody f), m, F.kp, b, oc, od, sl, lk⟩
theorem Def.at_ {x : Str} {k : Nat} {ps : List Str} {sp : Sp} {fa : Addr} {fd : FuncData} {oc : Value} {od : Option Addr} {sl : Array (Option Value)} (D : Def P w K mg base x k ps sp) (hm : mg x = some (.ref fa)) (l : K.lookup fa = some ⟨oc, od, .func fd, sl⟩) : FnOk P w K mg base CX0 k fa fd ps sp := by
  obtain ⟨f, fd', F, m, _, _, oc', od', sl', lk⟩ := D.ex
  have e : fa = f := Value.ref.inj (Option.some.inj (hm.symm.trans m))
  subst e
  have e2 := lk.symm.trans l
  cases e2
  exact F
end
end Lw
namespace Lw
open PySem PySem.Spec PyProof.Rows L2
theorem bt_len : bootBuiltins "len" = some (.builtin "len") := by decide +kernel
theorem bt_abs : bootBuiltins "abs" = some (.builtin "abs") := by decide +kernel
theorem bt_min : bootBuiltins "min" = some (.builtin "min") := by decide +kernel
theorem bt_max : bootBuiltins "max" = some (.builtin "max") := by decide +kernel
theorem bt_all : bootBuiltins "all" = some (.builtin "all") := by decide +kernel
end Lw
set_option Elab.async false
set_option maxRecDepth 100000
set_option maxHeartbeats 2000000
namespace Lw
open PySem PySem.Spec PyProof.Rows L2
section
variable {X : Cx}
end
theorem take_snoc {α : Type} {ys : List α} {i : Nat} {y : α} (h : ys[i]? = some y) : ys.take i ++ [y] = ys.take (i + 1) := by
  rw [List.take_add_one, h]
  rfl
theorem upd_keep {H H' : Hp} {D : Addr} {o : HO} (n : H D = Option.none) (s : Same H H') : Same H (upd H' D o) := fun b u e => by
  rw [upd_ne (ne_of_none e n)]
  exact s b u e
theorem lc_mapL {K : PySem.W.Frag} {a : Addr} {xs ys : List V} {g : TG} {tt : TT} {te : TE} {vs : List Nat} {σ : L2.St} {H1 : Hp} {D : Addr} {Qd : Hp → Prop} (hn : H1 D = Option.none) (hy : ys.length = xs.length) (hz : ys.length ≤ sizeLine) (hS : SqL K H1 a xs)
    (hs : ∀ (i : Nat) (x y : V) (H : Hp) (R : V → Hp → Prop) (N : Hp → Prop), xs[i]? = some x → ys[i]? = some y → Same H1 H → (∀ H4, Same H H4 → R y H4) → g x (wipe σ vs) H fun σ2 H2 => wipe σ2 vs = wipe σ vs ∧ tt σ2 H2 fun b H3 => if b = true then te σ2 H3 R else N H3)
    (hd : ∀ H, Same H1 H → H D = some (.lst ys) → Qd H) :
    ∃ W : Nat → Nat → Hp → Prop, (∃ m, W 0 m (upd H1 D (.lst []))) ∧ ∀ i m H, W i m H →
      ((Itl K a).stop i H ∧ Qd H) ∨ ((Itl K a).go i H ∧ ∃ Nx : Hp → Prop, (∀ H', Nx H' → ∃ m', m' < m ∧ W (i + 1) m' H') ∧ ∀ x H', (Itl K a).yld i H x H' → g x (wipe σ vs) H' fun σ2 H2 => wipe σ2 vs = wipe σ vs ∧ tt σ2 H2 fun b H3 =>
        if b = true then te σ2 H3 fun y H4 => ∃ acc, H4 D = some (.lst acc) ∧ acc.length < sizeLine ∧ Nx (upd H4 D (.lst (acc ++ [y]))) else Nx H3) := by
  refine lc_list (K := K) (a := a) (xs := xs) (fun i H => Same H1 H ∧ H D = some (.lst (ys.take i))) ⟨same_new hn, upd_same⟩ (fun i H _ p => p.1.seq hS) ?_ (fun H p => hd H p.1 ?_)
  · intro i x H hx p
    have hi : i < ys.length := by rw [hy]; exact (List.getElem?_eq_some_iff.mp hx).1
    refine hs i x ys[i] H _ _ hx (List.getElem?_eq_getElem hi) p.1 fun H4 s4 => ⟨ys.take i, s4 _ _ p.2, ?_, upd_keep hn (p.1.trans s4), ?_⟩
    · rw [List.length_take]
      omega
    · rw [take_snoc (List.getElem?_eq_getElem hi)]
      exact upd_same
  · have := p.2
    rw [← hy, List.take_length] at this
    exact this
theorem lc_mapR {lo : Int} {n : Nat} {ys : List V} {g : TG} {tt : TT} {te : TE} {vs : List Nat} {σ : L2.St} {H1 : Hp} {D : Addr} {Qd : Hp → Prop} (hn : H1 D = Option.none) (hy : ys.length = n) (hz : ys.length ≤ sizeLine)
    (hs : ∀ (i : Nat) (y : V) (H : Hp) (R : V → Hp → Prop) (N : Hp → Prop), i < n → ys[i]? = some y → Same H1 H → (∀ H4, Same H H4 → R y H4) → g (.int (lo + i)) (wipe σ vs) H fun σ2 H2 => wipe σ2 vs = wipe σ vs ∧ tt σ2 H2 fun b H3 => if b = true then te σ2 H3 R else N H3)
    (hd : ∀ H, Same H1 H → H D = some (.lst ys) → Qd H) :
    ∃ W : Nat → Nat → Hp → Prop, (∃ m, W 0 m (upd H1 D (.lst []))) ∧ ∀ i m H, W i m H →
      ((Itr lo n).stop i H ∧ Qd H) ∨ ((Itr lo n).go i H ∧ ∃ Nx : Hp → Prop, (∀ H', Nx H' → ∃ m', m' < m ∧ W (i + 1) m' H') ∧ ∀ x H', (Itr lo n).yld i H x H' → g x (wipe σ vs) H' fun σ2 H2 => wipe σ2 vs = wipe σ vs ∧ tt σ2 H2 fun b H3 =>
        if b = true then te σ2 H3 fun y H4 => ∃ acc, H4 D = some (.lst acc) ∧ acc.length < sizeLine ∧ Nx (upd H4 D (.lst (acc ++ [y]))) else Nx H3) := by
  refine lc_range (lo := lo) (n := n) (fun i H => Same H1 H ∧ H D = some (.lst (ys.take i))) ⟨same_new hn, upd_same⟩ ?_ (fun H p => hd H p.1 ?_)
  · intro i H hx p
    have hi : i < ys.length := by rw [hy]; exact hx
    refine hs i ys[i] H _ _ hx (List.getElem?_eq_getElem hi) p.1 fun H4 s4 => ⟨ys.take i, s4 _ _ p.2, ?_, upd_keep hn (p.1.trans s4), ?_⟩
    · rw [List.length_take]
      omega
    · rw [take_snoc (List.getElem?_eq_getElem hi)]
      exact upd_same
  · have := p.2
    rw [← hy, List.take_length] at this
    exact this
theorem lc_rangeC {lo c : Int} {n : Nat} {g : TG} {tt : TT} {te : TE} {vs : List Nat} {σ : L2.St} {H1 : Hp} {D : Addr} {Qd : Hp → Prop} (Pv : Nat → Hp → Prop) (h0 : Pv 0 (upd H1 D (.lst [])))
    (hs : ∀ i H, i < n → Pv i H → g (.int (lo + (i : Nat) * c)) (wipe σ vs) H fun σ2 H2 => wipe σ2 vs = wipe σ vs ∧ tt σ2 H2 fun b H3 =>
      if b = true then te σ2 H3 fun y H4 => ∃ acc, H4 D = some (.lst acc) ∧ acc.length < sizeLine ∧ Pv (i + 1) (upd H4 D (.lst (acc ++ [y]))) else Pv (i + 1) H3) (hd : ∀ H, Pv n H → Qd H) :
    ∃ W : Nat → Nat → Hp → Prop, (∃ m, W 0 m (upd H1 D (.lst []))) ∧ ∀ i m H, W i m H →
      ((Itc lo c n).stop i H ∧ Qd H) ∨ ((Itc lo c n).go i H ∧ ∃ Nx : Hp → Prop, (∀ H', Nx H' → ∃ m', m' < m ∧ W (i + 1) m' H') ∧ ∀ x H', (Itc lo c n).yld i H x H' → g x (wipe σ vs) H' fun σ2 H2 => wipe σ2 vs = wipe σ vs ∧ tt σ2 H2 fun b H3 =>
        if b = true then te σ2 H3 fun y H4 => ∃ acc, H4 D = some (.lst acc) ∧ acc.length < sizeLine ∧ Nx (upd H4 D (.lst (acc ++ [y]))) else Nx H3) := by
  refine ⟨fun i m H => m = n - i ∧ i ≤ n ∧ Pv i H, ⟨n, by simp, Nat.zero_le _, h0⟩, ?_⟩
  rintro i m H ⟨rfl, hi, p⟩
  by_cases hlt : i < n
  · refine .inr ⟨hlt, Pv (i + 1), fun H' p' => ⟨n - (i + 1), by omega, rfl, hlt, p'⟩, fun x H' y => ?_⟩
    obtain ⟨e, y⟩ := y
    subst e y
    exact hs i _ hlt p
  · have e : i = n := by omega
    subst e
    exact .inl ⟨Nat.le_refl _, hd H p⟩
theorem rgC {a b c : Int} {n : Nat} (hc : 0 < c) (hc2 : c < 1000000) (ha : -(2 ^ 60) ≤ a) (ha' : a < 2 ^ 60) (hb : -(2 ^ 60) ≤ b) (hb' : b < 2 ^ 60) (hn : (if a < b then (b - a - 1) / c + 1 else 0) = (n : Int)) : RgC a b c n := by
  have e : Builtin.Range.rangeSize a b c = if a < b then (b - a - 1) / c + 1 else 0 := by
    unfold Builtin.Range.rangeSize
    rw [if_pos hc]
  refine ⟨by omega, by omega, ?_, by rw [e, hn]⟩
  unfold Builtin.Range.small
  rw [e]
  have q1 : a < b → (b - a - 1) / c * c ≤ b - a - 1 := fun _ => Int.ediv_mul_le _ (by omega)
  have q2 : a < b → 0 ≤ (b - a - 1) / c := fun _ => Int.ediv_nonneg (by omega) (by omega)
  simp only [Builtin.Range.rangeFitsLong, Bool.and_eq_true, Bool.or_eq_true, decide_eq_true_eq, beq_iff_eq, show c > 0 from hc, if_true]
  have q3 : a < b → (b - a - 1) / c ≤ b - a - 1 := fun h => Int.ediv_le_self _ (by omega)
  split <;> omega
end Lw
set_option Elab.async false
namespace Wm
open Eh
theorem rootFrom_spec (n : Nat) : ∀ (k s : Nat), s * s ≤ n → n < (s + 2 ^ k) * (s + 2 ^ k) → rootFrom k n s * rootFrom k n s ≤ n ∧ n < (rootFrom k n s + 1) * (rootFrom k n s + 1)
  | 0, s, h1, h2 => ⟨h1, h2⟩
  | k + 1, s, h1, h2 => by
    unfold rootFrom
    have e : 2 ^ (k + 1) = 2 ^ k + 2 ^ k := by rw [Nat.pow_succ]; omega
    by_cases c : (s + 2 ^ k) * (s + 2 ^ k) ≤ n
    · rw [if_pos c]
      refine rootFrom_spec n k (s + 2 ^ k) c ?_
      rw [Nat.add_assoc, ← e]
      exact h2
    · rw [if_neg c]
      exact rootFrom_spec n k s h1 (by omega)
theorem lt_sq_log (n : Nat) : n < 2 ^ (n.log2 / 2 + 1) * 2 ^ (n.log2 / 2 + 1) := by
  have h : n < 2 ^ (n.log2 + 1) := Nat.lt_log2_self
  rw [← Nat.pow_add]
  exact Nat.lt_of_lt_of_le h (Nat.pow_le_pow_right (by decide) (by omega))
theorem root_spec (n : Nat) : root n * root n ≤ n ∧ n < (root n + 1) * (root n + 1) := by
  unfold root
  refine rootFrom_spec n _ 0 (Nat.zero_le _) ?_
  rw [Nat.zero_add]
  exact lt_sq_log n
theorem sq_lt {a b : Nat} (h : a * a < b * b) : a < b := by
  rcases Nat.lt_or_ge a b with c | c
  · exact c
  · exact absurd (Nat.mul_le_mul c c) (by omega)
theorem root_unique {n r : Nat} (h1 : r * r ≤ n) (h2 : n < (r + 1) * (r + 1)) : root n = r := by
  have ⟨a, b⟩ := root_spec n
  have c : r < root n + 1 := sq_lt (Nat.lt_of_le_of_lt h1 b)
  have d : root n < r + 1 := sq_lt (Nat.lt_of_le_of_lt a h2)
  omega
theorem root_lt {n r : Nat} (h : n < r * r) : root n < r := sq_lt (Nat.lt_of_le_of_lt (root_spec n).1 h)
def LvOk (g : Nat) (d : Int) : Prop := if 0 ≤ d then 10 ^ d.toNat * 2 ^ 480 ≤ g ^ 20 else 2 ^ 480 ≤ g ^ 20 * 10 ^ (-d).toNat
instance (g : Nat) (d : Int) : Decidable (LvOk g d) := by unfold LvOk; infer_instance
end Wm
set_option Elab.async false
namespace Wm
open Eh
def leftC (a b p : Corner) : Int := (b.x - a.x) * (p.y - a.y) - (b.y - a.y) * (p.x - a.x)
def btwC (a b c : Int) : Bool := decide (min a b ≤ c) && decide (c ≤ max a b)
def onC (a b p : Corner) : Bool := leftC a b p == 0 && (btwC a.x b.x p.x && btwC a.y b.y p.y)
def meetC (a b c d : Corner) : Bool := (decide (leftC a b c * leftC a b d < 0) && decide (leftC c d a * leftC c d b < 0)) || (onC a b c || (onC a b d || (onC c d a || onC c d b)))
def dirC (a b : Corner) : Bool := !(b.x - a.x == 0 && b.y - a.y == 0) && (b.x - a.x == 0 || (b.y - a.y == 0 || (b.x - a.x == b.y - a.y || b.x - a.x == -(b.y - a.y))))
def alongC (a b c d : Corner) : Bool := (b.x - a.x) * (d.y - c.y) - (b.y - a.y) * (d.x - c.x) == 0
theorem r_beq (a b : Int) : ((a : Rat) == (b : Rat)) = (a == b) := by
  by_cases c : a = b
  · subst c; simp
  · have c2 : (a : Rat) ≠ (b : Rat) := fun h => c (Rat.intCast_inj.mp h)
    rw [beq_eq_false_iff_ne.mpr c, beq_eq_false_iff_ne.mpr c2]
theorem r_beq0 (a : Int) : ((a : Rat) == 0) = (a == 0) := r_beq a 0
theorem r_lt (a b : Int) : decide ((a : Rat) < (b : Rat)) = decide (a < b) := decide_eq_decide.mpr Rat.intCast_lt_intCast
theorem r_le (a b : Int) : decide ((a : Rat) ≤ (b : Rat)) = decide (a ≤ b) := decide_eq_decide.mpr Rat.intCast_le_intCast
theorem r_min (a b : Int) : min (a : Rat) (b : Rat) = ((min a b : Int) : Rat) := by
  rw [Rat.min_def, Int.min_def]
  by_cases c : a ≤ b
  · rw [if_pos c, if_pos (Rat.intCast_le_intCast.mpr c)]
  · rw [if_neg c, if_neg fun h => c (Rat.intCast_le_intCast.mp h)]
theorem r_max (a b : Int) : max (a : Rat) (b : Rat) = ((max a b : Int) : Rat) := by
  rw [Rat.max_def, Int.max_def]
  by_cases c : a ≤ b
  · rw [if_pos c, if_pos (Rat.intCast_le_intCast.mpr c)]
  · rw [if_neg c, if_neg fun h => c (Rat.intCast_le_intCast.mp h)]
theorem left_at (a b p : Corner) : left a.at_ b.at_ p.at_ = ((leftC a b p : Int) : Rat) := by
  simp only [left, leftC, Corner.at_, Rat.intCast_sub, Rat.intCast_mul]
theorem btw_at (a b c : Int) : between (a : Rat) (b : Rat) (c : Rat) = btwC a b c := by
  unfold between btwC
  rw [r_min, r_max, r_le, r_le]
theorem on_at (a b p : Corner) : onLine (a.at_, b.at_) p.at_ = onC a b p := by
  unfold onLine onC
  rw [left_at, r_beq0]
  show (_ && (between (a.x : Rat) (b.x : Rat) (p.x : Rat) && between (a.y : Rat) (b.y : Rat) (p.y : Rat))) = _
  rw [btw_at, btw_at]
theorem r_lt0 (z : Int) : decide ((z : Rat) < 0) = decide (z < 0) := r_lt z 0
theorem meet_at (a b c d : Corner) : meet (a.at_, b.at_) (c.at_, d.at_) = meetC a b c d := by
  unfold meet meetC
  simp only [left_at, on_at, ← Rat.intCast_mul, r_lt0]
theorem dir_at (a b : Corner) : dirOk (a.at_, b.at_) = dirC a b := by
  unfold dirOk dirC Corner.at_
  simp only [← Rat.intCast_sub, ← Rat.intCast_neg, r_beq0, r_beq]
theorem along_at (a b c d : Corner) : alongside (a.at_, b.at_) (c.at_, d.at_) = alongC a b c d := by
  unfold alongside alongC Corner.at_
  simp only [← Rat.intCast_sub, ← Rat.intCast_mul, r_beq0]
def faultC (r : Room) : Option Fault :=
  if r.n < 3 ∨ MOST < r.n then some ⟨1, 0⟩
  else if r.h < 1 ∨ WIDE < r.h ∨ STUFFS ≤ r.floor_ ∨ STUFFS ≤ r.ceiling then some ⟨2, 0⟩
  else match (List.range r.n).find? fun (i : Nat) => decide (WIDE < (r.corner i).x) || (decide (WIDE < (r.corner i).y) || (decide ((r.corner i).x < 0) || (decide ((r.corner i).y < 0) || decide (STUFFS ≤ (r.corner i).stuff)))) with
  | some i => some ⟨3, i⟩
  | none => match (List.range r.n).find? fun (i : Nat) => !dirC (r.corner i) (r.corner (i + 1)) with
    | some i => some ⟨4, i⟩
    | none => match (List.range r.n).find? fun (i : Nat) => alongC (r.corner i) (r.corner (i + 1)) (r.corner (i + 1)) (r.corner (i + 1 + 1)) with
      | some i => some ⟨5, i⟩
      | none => match (List.range r.n).find? fun (i : Nat) => (List.range r.n).any fun (j : Nat) => !neighbours r.n i j && meetC (r.corner i) (r.corner (i + 1)) (r.corner j) (r.corner (j + 1)) with
        | some i => some ⟨6, i⟩
        | none => if r.area2 ≤ 0 then some ⟨7, 0⟩ else none
theorem fault_eq (r : Room) : r.fault = faultC r := by
  unfold Room.fault faultC Room.line
  simp only [dir_at, along_at, meet_at]
  rfl
end Wm
set_option Elab.async false
namespace Wm
open Eh
end Wm
set_option Elab.async false
namespace Wm
open Eh
end Wm
set_option Elab.async false
namespace Wm
open Eh
end Wm
set_option Elab.async false
namespace Wm
open Eh
def threes : Nat → List Int → List Corner
  | 0, _ => []
  | n + 1, l => ⟨l.getD 0 0, l.getD 1 0, stuffOf (l.getD 2 0)⟩ :: threes n (l.drop 3)
theorem threes_len : ∀ (n : Nat) (l : List Int), (threes n l).length = n
  | 0, _ => rfl
  | n + 1, l => by
    show (threes n (l.drop 3)).length + 1 = n + 1
    rw [threes_len n]
theorem corners_some : ∀ (n : Nat) (l : List Int), l.length = 3 * n → cornersOf l = some (threes n l)
  | 0, [], _ => rfl
  | 0, _ :: _, h => by simp at h
  | n + 1, [], h => by simp at h
  | n + 1, [_], h => by simp at h; omega
  | n + 1, [_, _], h => by simp at h; omega
  | n + 1, x :: y :: s :: l, h => by
    have h' : l.length = 3 * n := by simp at h; omega
    show (cornersOf l).map _ = _
    rw [corners_some n l h']
    rfl
theorem corners_none : ∀ (l : List Int), l.length % 3 ≠ 0 → cornersOf l = none
  | [], h => by simp at h
  | [_], _ => rfl
  | [_, _], _ => rfl
  | x :: y :: s :: l, h => by
    have h' : l.length % 3 ≠ 0 := by simp at h; omega
    show (cornersOf l).map _ = _
    rw [corners_none l h']
    rfl
theorem threes_get : ∀ (n : Nat) (l : List Int) (i : Nat), i < n → (threes n l)[i]? = some ⟨l.getD (3 * i) 0, l.getD (3 * i + 1) 0, stuffOf (l.getD (3 * i + 2) 0)⟩
  | 0, _, i, h => by omega
  | n + 1, l, 0, _ => rfl
  | n + 1, l, i + 1, h => by
    show (threes n (l.drop 3))[i]? = _
    rw [threes_get n (l.drop 3) i (by omega)]
    simp only [List.getD_eq_getElem?_getD, List.getElem?_drop]
    have a : 3 + 3 * i = 3 * (i + 1) := by omega
    have b : 3 + (3 * i + 1) = 3 * (i + 1) + 1 := by omega
    have c : 3 + (3 * i + 2) = 3 * (i + 1) + 2 := by omega
    rw [a, b, c]
def theRoom (l : List Int) : Room := ⟨l.getD 0 0, stuffOf (l.getD 1 0), stuffOf (l.getD 2 0), threes (l.length / 3 - 1) (l.drop 3)⟩
theorem theRoom_n (l : List Int) : (theRoom l).n = l.length / 3 - 1 := threes_len _ _
theorem theRoom_corner (l : List Int) (i : Nat) (h : i < l.length / 3 - 1) : (theRoom l).corner i = ⟨l.getD (3 * i + 3) 0, l.getD (3 * i + 4) 0, stuffOf (l.getD (3 * i + 5) 0)⟩ := by
  unfold Room.corner
  rw [theRoom_n, Nat.mod_eq_of_lt h, List.getD_eq_getElem?_getD]
  show (threes _ _)[i]?.getD _ = _
  rw [threes_get _ _ i h]
  simp only [List.getD_eq_getElem?_getD, List.getElem?_drop, Option.getD_some]
  have a : 3 + 3 * i = 3 * i + 3 := by omega
  have b : 3 + (3 * i + 1) = 3 * i + 4 := by omega
  have c : 3 + (3 * i + 2) = 3 * i + 5 := by omega
  rw [a, b, c]
theorem corner_wrap (r : Room) (i : Nat) : r.corner (i % r.n) = r.corner i := by
  unfold Room.corner
  rw [Nat.mod_mod]
def roomL (l : List Int) : Except Fault Room :=
  if l.length < 3 ∨ l.length % 3 ≠ 0 then .error ⟨1, 0⟩
  else match faultC (theRoom l) with
    | some e => .error e
    | none => .ok (theRoom l)
theorem roomOf_eq (l : List Int) : roomOf l = roomL l := by
  unfold roomL
  match l with
  | [] => rfl
  | [_] => rfl
  | [_, _] => rfl
  | h :: f :: c :: r =>
    unfold roomOf
    by_cases q : r.length % 3 = 0
    · have e : (h :: f :: c :: r).length = r.length + 3 := rfl
      rw [if_neg (by rw [e]; omega)]
      have k := corners_some (r.length / 3) r (by omega)
      have t : theRoom (h :: f :: c :: r) = ⟨h, stuffOf f, stuffOf c, threes (r.length / 3) r⟩ := by
        unfold theRoom
        have : (h :: f :: c :: r).length / 3 - 1 = r.length / 3 := by rw [e]; omega
        rw [this]
        rfl
      simp only [k, t, fault_eq]
      rfl
    · have e : (h :: f :: c :: r).length = r.length + 3 := rfl
      rw [if_pos (by rw [e]; omega)]
      have k := corners_none r q
      simp only [k]
theorem fz {l : List Int} (h : ∀ x ∈ l, 0 ≤ x) : BaNeutral.fromZero l = true := List.all_eq_true.mpr fun x hx => decide_eq_true (h x hx)
def ofL (room : List Int) (book : List Nat) (f : Room → Book → List Int) : List Int := match roomL room with
  | .error e => [-5, (e.rule : Int), (e.wall : Int)]
  | .ok r => match bookOf book with
    | .error i => [-6, (i : Int)]
    | .ok b => f r b
theorem ofBook_told (room : List Int) (book : List Nat) (f : Room → Book → Ba.Answer) : BaNeutral.told (Ba.ofBook room book f) = ofL room book fun r b => BaNeutral.told (f r b) := by
  unfold Ba.ofBook ofL
  rw [roomOf_eq]
  cases roomL room with
  | error e => rfl
  | ok r =>
    show BaNeutral.told (match bookOf book with | .error i => .book i | .ok b => f r b) = _
    cases bookOf book with
    | error i => rfl
    | ok b => rfl
theorem gains_due {q : Int} {room book walls : List Int} (hq : 0 ≤ q) (hb : ∀ x ∈ book, 0 ≤ x) (hw : ∀ x ∈ walls, 0 ≤ x) : PyYqbeca.gains q room book walls = ofL room (BaNeutral.nats book) fun r b =>
    if 4 < walls.length ∨ (BaNeutral.nats walls).any (fun (x : Nat) => decide (r.n + 2 ≤ x)) = true then [-1] else if 2 ^ 40 < q.toNat then [-4] else 0 :: ((List.range 4).map fun (i : Nat) => (gain r b i q.toNat (BaNeutral.nats walls) : Int)) := by
  have e : BaNeutral.callOf [[2, q], room, book, walls] = some (.gains q.toNat room (BaNeutral.nats book) (BaNeutral.nats walls)) := by
    show (if 0 ≤ q ∧ BaNeutral.fromZero book = true ∧ BaNeutral.fromZero walls = true then _ else _) = _
    rw [if_pos ⟨hq, fz hb, fz hw⟩]
  show (BaNeutral.step BaNeutral.start [[2, q], room, book, walls]).2 = _
  unfold BaNeutral.step
  rw [e]
  show BaNeutral.told (Ba.ofBook room (BaNeutral.nats book) _) = _
  rw [ofBook_told]
  congr 1
  funext r b
  have l : (BaNeutral.nats walls).length = walls.length := List.length_map ..
  show BaNeutral.told (if TURNS < (BaNeutral.nats walls).length ∨ _ then _ else _) = _
  rw [l]
  by_cases c : TURNS < walls.length ∨ (BaNeutral.nats walls).any (fun (x : Nat) => decide (r.walls ≤ x)) = true
  · rw [if_pos c, if_pos (show 4 < walls.length ∨ (BaNeutral.nats walls).any (fun (x : Nat) => decide (r.n + 2 ≤ x)) = true from c)]
    rfl
  · rw [if_neg c, if_neg (show ¬ (4 < walls.length ∨ (BaNeutral.nats walls).any (fun (x : Nat) => decide (r.n + 2 ≤ x)) = true) from c)]
    by_cases d : Ba.FARTHEST < q.toNat
    · rw [if_pos d, if_pos (show 2 ^ 40 < q.toNat from d)]
      rfl
    · rw [if_neg d, if_neg (show ¬ 2 ^ 40 < q.toNat from d)]
      rfl
end Wm
set_option Elab.async false
set_option exponentiation.threshold 2000
namespace Wm
open Eh
end Wm
set_option Elab.async false
namespace Wm
open Eh
end Wm
set_option Elab.async false
namespace Wm
open Eh
end Wm
set_option Elab.async false
namespace Wm
open Eh
theorem pr_le (x y : Int) : x * y ≤ 0 ↔ (x ≤ 0 ∧ 0 ≤ y) ∨ (0 ≤ x ∧ y ≤ 0) := by
  constructor
  · intro h
    rcases Int.lt_trichotomy x 0 with a | a | a
    · rcases Int.lt_or_le y 0 with b | b
      · have := Int.mul_pos_of_neg_of_neg a b
        omega
      · exact .inl ⟨by omega, b⟩
    · omega
    · rcases Int.lt_or_le 0 y with b | b
      · have := Int.mul_pos a b
        omega
      · exact .inr ⟨by omega, b⟩
  · rintro (⟨a, b⟩ | ⟨a, b⟩)
    · exact Int.mul_nonpos_of_nonpos_of_nonneg a b
    · exact Int.mul_nonpos_of_nonneg_of_nonpos a b
theorem pr_lt (x y : Int) : x * y < 0 ↔ (x < 0 ∧ 0 < y) ∨ (0 < x ∧ y < 0) := by
  constructor
  · intro h
    have := (pr_le x y).mp (by omega)
    have hx : x ≠ 0 := fun e => by subst e; simp at h
    have hy : y ≠ 0 := fun e => by subst e; simp at h
    omega
  · rintro (⟨a, b⟩ | ⟨a, b⟩)
    · exact Int.mul_neg_of_neg_of_pos a b
    · exact Int.mul_neg_of_pos_of_neg a b
theorem pr_scale_le {L : Int} (h : L ≠ 0) (x y : Int) : (L * x) * (L * y) ≤ 0 ↔ x * y ≤ 0 := by
  have e : (L * x) * (L * y) = (L * L) * (x * y) := by
    simp only [Int.mul_assoc, Int.mul_left_comm, Int.mul_comm]
  have p : 0 < L * L := by
    rcases Int.lt_or_gt_of_ne h with a | a
    · exact Int.mul_pos_of_neg_of_neg a a
    · exact Int.mul_pos a a
  rw [e, pr_le]
  omega
theorem pr_scale_lt {L : Int} (h : L ≠ 0) (x y : Int) : (L * x) * (L * y) < 0 ↔ x * y < 0 := by
  have e : (L * x) * (L * y) = (L * L) * (x * y) := by
    simp only [Int.mul_assoc, Int.mul_left_comm, Int.mul_comm]
  have p : 0 < L * L := by
    rcases Int.lt_or_gt_of_ne h with a | a
    · exact Int.mul_pos_of_neg_of_neg a a
    · exact Int.mul_pos a a
  rw [e, pr_lt]
  omega
def Unit8 (u v : Int) : Prop := (u = 1 ∧ v = 0) ∨ (u = 0 ∧ v = 1) ∨ (u = 1 ∧ v = 1) ∨ (u = 1 ∧ v = -1)
theorem dir_unit {a b : Corner} (h : dirC a b = true) : ∃ u v L : Int, Unit8 u v ∧ L ≠ 0 ∧ b.x = a.x + L * u ∧ b.y = a.y + L * v := by
  unfold dirC at h
  simp only [Bool.and_eq_true, Bool.not_eq_true', Bool.and_eq_false_iff, beq_eq_false_iff_ne, Bool.or_eq_true, beq_iff_eq] at h
  obtain ⟨h1, h2⟩ := h
  rcases h2 with h2 | h2 | h2 | h2
  · exact ⟨0, 1, b.y - a.y, .inr (.inl ⟨rfl, rfl⟩), by omega, by omega, by omega⟩
  · exact ⟨1, 0, b.x - a.x, .inl ⟨rfl, rfl⟩, by omega, by omega, by omega⟩
  · exact ⟨1, 1, b.x - a.x, .inr (.inr (.inl ⟨rfl, rfl⟩)), by omega, by omega, by omega⟩
  · exact ⟨1, -1, b.x - a.x, .inr (.inr (.inr ⟨rfl, rfl⟩)), by omega, by omega, by omega⟩
def ell (u v : Int) (a p : Corner) : Int := u * (p.y - a.y) - v * (p.x - a.x)
theorem left_ell {a b : Corner} {u v L : Int} (hx : b.x = a.x + L * u) (hy : b.y = a.y + L * v) (p : Corner) : leftC a b p = L * ell u v a p := by
  unfold leftC ell
  rw [hx, hy]
  have e1 : a.x + L * u - a.x = L * u := by omega
  have e2 : a.y + L * v - a.y = L * v := by omega
  rw [e1, e2, Int.mul_assoc, Int.mul_assoc, ← Int.mul_sub]
def rngC (a b c d : Int) : Prop := max (min a b) (min c d) ≤ min (max a b) (max c d)
def meetP (a b c d : Corner) : Prop := rngC a.x b.x c.x d.x ∧ rngC a.y b.y c.y d.y ∧ leftC a b c * leftC a b d ≤ 0 ∧ leftC c d a * leftC c d b ≤ 0
theorem ell0 {L e : Int} (h : L ≠ 0) : L * e = 0 ↔ e = 0 := by
  rw [Int.mul_eq_zero]
  constructor
  · rintro (q | q)
    · exact absurd q h
    · exact q
  · exact .inr
/-- two lines of a way each, from a on L of u, from c on M of p: in numbers -/
structure Two (ax ay bx by_ cx cy dx dy L M u v p q e1 e2 f1 f2 : Int) : Prop where
  hu : Unit8 u v
  hp : Unit8 p q
  hbx : bx = ax + L * u
  hby : by_ = ay + L * v
  hdx : dx = cx + M * p
  hdy : dy = cy + M * q
  he1 : e1 = u * (cy - ay) - v * (cx - ax)
  he2 : e2 = u * (dy - ay) - v * (dx - ax)
  hf1 : f1 = p * (ay - cy) - q * (ax - cx)
  hf2 : f2 = p * (by_ - cy) - q * (bx - cx)
def mA (ax ay bx by_ cx cy dx dy e1 e2 f1 f2 : Int) : Prop :=
  ((((e1 < 0 ∧ 0 < e2) ∨ (0 < e1 ∧ e2 < 0)) ∧ ((f1 < 0 ∧ 0 < f2) ∨ (0 < f1 ∧ f2 < 0))) ∨
      (e1 = 0 ∧ (min ax bx ≤ cx ∧ cx ≤ max ax bx) ∧ (min ay by_ ≤ cy ∧ cy ≤ max ay by_)) ∨ (e2 = 0 ∧ (min ax bx ≤ dx ∧ dx ≤ max ax bx) ∧ (min ay by_ ≤ dy ∧ dy ≤ max ay by_)) ∨
      (f1 = 0 ∧ (min cx dx ≤ ax ∧ ax ≤ max cx dx) ∧ (min cy dy ≤ ay ∧ ay ≤ max cy dy)) ∨ (f2 = 0 ∧ (min cx dx ≤ bx ∧ bx ≤ max cx dx) ∧ (min cy dy ≤ by_ ∧ by_ ≤ max cy dy)))
def mB (ax ay bx by_ cx cy dx dy e1 e2 f1 f2 : Int) : Prop :=
  ((min ax bx ≤ max cx dx ∧ min cx dx ≤ max ax bx) ∧ (min ay by_ ≤ max cy dy ∧ min cy dy ≤ max ay by_)) ∧ ((e1 ≤ 0 ∧ 0 ≤ e2) ∨ (0 ≤ e1 ∧ e2 ≤ 0)) ∧ ((f1 ≤ 0 ∧ 0 ≤ f2) ∨ (0 ≤ f1 ∧ f2 ≤ 0))
theorem Two.e2_eq {ax ay bx by_ cx cy dx dy L M u v p q e1 e2 f1 f2 : Int} (T : Two ax ay bx by_ cx cy dx dy L M u v p q e1 e2 f1 f2) : e2 = e1 + M * (u * q - v * p) := by
  rw [T.he1, T.he2, T.hdx, T.hdy]
  grind
theorem Two.f2_eq {ax ay bx by_ cx cy dx dy L M u v p q e1 e2 f1 f2 : Int} (T : Two ax ay bx by_ cx cy dx dy L M u v p q e1 e2 f1 f2) : f2 = f1 - L * (u * q - v * p) := by
  rw [T.hf1, T.hf2, T.hbx, T.hby]
  grind
theorem Two.at_ {ax ay bx by_ cx cy dx dy L M u v p q e1 e2 f1 f2 X Y t r : Int} (T : Two ax ay bx by_ cx cy dx dy L M u v p q e1 e2 f1 f2) (h1 : X = ax + t * u) (h2 : Y = ay + t * v) (h4 : X = cx + r * p) (h5 : Y = cy + r * q) :
    e1 = -(r * (u * q - v * p)) ∧ f1 = t * (u * q - v * p) := by
  have a : cx = ax + t * u - r * p := by omega
  have b : cy = ay + t * v - r * q := by omega
  rw [T.he1, T.hf1, a, b]
  constructor <;> grind
def Btw (t L : Int) : Prop := (0 ≤ t ∧ t ≤ L) ∨ (L ≤ t ∧ t ≤ 0)
theorem mul_same {x y D : Int} (h : (0 ≤ x ∧ 0 ≤ y) ∨ (x ≤ 0 ∧ y ≤ 0)) : (0 ≤ x * D ∧ 0 ≤ y * D) ∨ (x * D ≤ 0 ∧ y * D ≤ 0) := by
  rcases Int.le_total 0 D with d | d
  · rcases h with ⟨a, b⟩ | ⟨a, b⟩
    · exact .inl ⟨Int.mul_nonneg a d, Int.mul_nonneg b d⟩
    · exact .inr ⟨Int.mul_nonpos_of_nonpos_of_nonneg a d, Int.mul_nonpos_of_nonpos_of_nonneg b d⟩
  · rcases h with ⟨a, b⟩ | ⟨a, b⟩
    · exact .inr ⟨Int.mul_nonpos_of_nonneg_of_nonpos a d, Int.mul_nonpos_of_nonneg_of_nonpos b d⟩
    · exact .inl ⟨Int.mul_nonneg_of_nonpos_of_nonpos a d, Int.mul_nonneg_of_nonpos_of_nonpos b d⟩
theorem same_of_mul {x y D : Int} (hD : D ≠ 0) (h : (0 ≤ x * D ∧ 0 ≤ y * D) ∨ (x * D ≤ 0 ∧ y * D ≤ 0)) : (0 ≤ x ∧ 0 ≤ y) ∨ (x ≤ 0 ∧ y ≤ 0) := by
  rcases Int.lt_or_gt_of_ne hD with d | d
  · have n : ∀ z : Int, 0 ≤ z * D → z ≤ 0 := fun z hz => Int.not_lt.mp fun q => by have := Int.mul_neg_of_pos_of_neg q d; omega
    have m : ∀ z : Int, z * D ≤ 0 → 0 ≤ z := fun z hz => Int.not_lt.mp fun q => by have := Int.mul_pos_of_neg_of_neg q d; omega
    rcases h with ⟨a, b⟩ | ⟨a, b⟩
    · exact .inr ⟨n x a, n y b⟩
    · exact .inl ⟨m x a, m y b⟩
  · have n : ∀ z : Int, 0 ≤ z * D → 0 ≤ z := fun z hz => Int.not_lt.mp fun q => by have := Int.mul_neg_of_neg_of_pos q d; omega
    have m : ∀ z : Int, z * D ≤ 0 → z ≤ 0 := fun z hz => Int.not_lt.mp fun q => by have := Int.mul_pos q d; omega
    rcases h with ⟨a, b⟩ | ⟨a, b⟩
    · exact .inl ⟨n x a, n y b⟩
    · exact .inr ⟨m x a, m y b⟩
def U1 (u : Int) : Prop := u = 0 ∨ u = 1 ∨ u = -1
theorem Unit8.fst {u v : Int} (h : Unit8 u v) : U1 u := by
  rcases h with ⟨a, _⟩ | ⟨a, _⟩ | ⟨a, _⟩ | ⟨a, _⟩
  · exact .inr (.inl a)
  · exact .inl a
  · exact .inr (.inl a)
  · exact .inr (.inl a)
theorem Unit8.snd {u v : Int} (h : Unit8 u v) : U1 v := by
  rcases h with ⟨_, a⟩ | ⟨_, a⟩ | ⟨_, a⟩ | ⟨_, a⟩
  · exact .inl a
  · exact .inr (.inl a)
  · exact .inr (.inl a)
  · exact .inr (.inr a)
theorem btw_mul {g f u : Int} (hu : U1 u) (h : Btw f g) : Btw (f * u) (g * u) := by
  unfold Btw at *
  rcases hu with rfl | rfl | rfl <;> omega
theorem within_of {a b X t L u : Int} (hu : U1 u) (hb : b = a + L * u) (hX : X = a + t * u) (h : Btw t L) : min a b ≤ X ∧ X ≤ max a b := by
  have := btw_mul hu h
  unfold Btw at this
  omega
theorem on_two {ax ay bx by_ cx cy dx dy L M u v p q e1 e2 f1 f2 X Y t r : Int} (T : Two ax ay bx by_ cx cy dx dy L M u v p q e1 e2 f1 f2) (h1 : X = ax + t * u) (h2 : Y = ay + t * v) (h3 : Btw t L)
    (h4 : X = cx + r * p) (h5 : Y = cy + r * q) (h6 : Btw r M) : mB ax ay bx by_ cx cy dx dy e1 e2 f1 f2 := by
  have ⟨a, b⟩ := T.at_ h1 h2 h4 h5
  have e2 := T.e2_eq
  have f2 := T.f2_eq
  have x1 := within_of T.hu.fst T.hbx h1 h3
  have x2 := within_of T.hp.fst T.hdx h4 h6
  have y1 := within_of T.hu.snd T.hby h2 h3
  have y2 := within_of T.hp.snd T.hdy h5 h6
  have s1 := mul_same (x := r) (y := M - r) (D := u * q - v * p) (by unfold Btw at h6; omega)
  have s2 := mul_same (x := t) (y := L - t) (D := u * q - v * p) (by unfold Btw at h3; omega)
  rw [Int.sub_mul] at s1 s2
  generalize r * (u * q - v * p) = z1 at *
  generalize t * (u * q - v * p) = z2 at *
  generalize M * (u * q - v * p) = z3 at *
  generalize L * (u * q - v * p) = z4 at *
  unfold mB
  exact ⟨⟨⟨by omega, by omega⟩, by omega, by omega⟩, by omega, by omega⟩
theorem line_t {ax ay u v cx cy : Int} (hu : Unit8 u v) (h : u * (cy - ay) - v * (cx - ax) = 0) : ∃ t, cx = ax + t * u ∧ cy = ay + t * v := by
  rcases hu with ⟨rfl, rfl⟩ | ⟨rfl, rfl⟩ | ⟨rfl, rfl⟩ | ⟨rfl, rfl⟩
  · exact ⟨cx - ax, by omega, by omega⟩
  · exact ⟨cy - ay, by omega, by omega⟩
  · exact ⟨cx - ax, by omega, by omega⟩
  · exact ⟨cx - ax, by omega, by omega⟩
theorem t_btw {ax ay bx by_ u v cx cy L t : Int} (hu : Unit8 u v) (hbx : bx = ax + L * u) (hby : by_ = ay + L * v) (hx : cx = ax + t * u) (hy : cy = ay + t * v) (rx : min ax bx ≤ cx ∧ cx ≤ max ax bx) (ry : min ay by_ ≤ cy ∧ cy ≤ max ay by_) : Btw t L := by
  unfold Btw
  rcases hu with ⟨rfl, rfl⟩ | ⟨rfl, rfl⟩ | ⟨rfl, rfl⟩ | ⟨rfl, rfl⟩
  · clear hby hy ry
    omega
  · clear hbx hx rx
    omega
  · clear hby hy ry
    omega
  · clear hby hy ry
    omega
theorem dets {u v p q : Int} (hu : Unit8 u v) (hp : Unit8 p q) : (u * q - v * p = 0 ∧ p = u ∧ q = v) ∨ u * q - v * p = 1 ∨ u * q - v * p = -1 ∨ u * q - v * p = 2 ∨ u * q - v * p = -2 := by
  rcases hu with ⟨rfl, rfl⟩ | ⟨rfl, rfl⟩ | ⟨rfl, rfl⟩ | ⟨rfl, rfl⟩ <;> rcases hp with ⟨rfl, rfl⟩ | ⟨rfl, rfl⟩ | ⟨rfl, rfl⟩ | ⟨rfl, rfl⟩ <;> decide
theorem cross_coord {a b c d D f e L M u p : Int} (hD : D = 1 ∨ D = -1 ∨ D = 2 ∨ D = -2) (hu : U1 u) (hp : U1 p) (hb : b = a + L * u) (hd : d = c + M * p) (hX : D * a + f * u = D * c - e * p) (hf : Btw f (L * D)) (he : Btw (-e) (M * D)) : min a b ≤ max c d ∧ min c d ≤ max a b := by
  have b1 := btw_mul hu hf
  have b2 := btw_mul hp he
  have e1 : L * D * u = D * b - D * a := by rw [hb]; grind
  have e2 : M * D * p = D * d - D * c := by rw [hd]; grind
  have e3 : -e * p = -(e * p) := Int.neg_mul _ _
  rw [e1] at b1
  rw [e2, e3] at b2
  clear hb hd hf he e1 e2 e3
  unfold Btw at b1 b2
  generalize f * u = x at *
  generalize e * p = y at *
  rcases hD with rfl | rfl | rfl | rfl
  · omega
  · omega
  · omega
  · omega
theorem two_any {ax ay bx by_ cx cy dx dy L M u v p q e1 e2 f1 f2 : Int} (T : Two ax ay bx by_ cx cy dx dy L M u v p q e1 e2 f1 f2) (hL : L ≠ 0) (hM : M ≠ 0) : mA ax ay bx by_ cx cy dx dy e1 e2 f1 f2 ↔ mB ax ay bx by_ cx cy dx dy e1 e2 f1 f2 := by
  have he2 := T.e2_eq
  have hf2 := T.f2_eq
  have z0 : ∀ x : Int, x = x + 0 * u ∧ x = x + 0 * v ∧ x = x + 0 * p ∧ x = x + 0 * q := fun x => by simp
  have B0 : ∀ x : Int, Btw 0 x := fun x => by unfold Btw; omega
  have BL : ∀ x : Int, Btw x x := fun x => by unfold Btw; omega
  have dt := dets T.hu T.hp
  constructor
  · rintro (⟨a, b⟩ | ⟨a, rx, ry⟩ | ⟨a, rx, ry⟩ | ⟨a, rx, ry⟩ | ⟨a, rx, ry⟩)
    · have hD : u * q - v * p = 1 ∨ u * q - v * p = -1 ∨ u * q - v * p = 2 ∨ u * q - v * p = -2 := by
        rcases dt with ⟨z, _⟩ | z
        · rw [z, Int.mul_zero] at he2
          omega
        · exact z
      have X1 : (u * q - v * p) * ax + f1 * u = (u * q - v * p) * cx - e1 * p := by rw [T.hf1, T.he1]; grind
      have Y1 : (u * q - v * p) * ay + f1 * v = (u * q - v * p) * cy - e1 * q := by rw [T.hf1, T.he1]; grind
      have k1 : Btw f1 (L * (u * q - v * p)) := by unfold Btw; omega
      have k2 : Btw (-e1) (M * (u * q - v * p)) := by unfold Btw; omega
      exact ⟨⟨cross_coord hD T.hu.fst T.hp.fst T.hbx T.hdx X1 k1 k2, cross_coord hD T.hu.snd T.hp.snd T.hby T.hdy Y1 k1 k2⟩, by omega, by omega⟩
    · rw [T.he1] at a
      obtain ⟨t, hx, hy⟩ := line_t T.hu a
      exact on_two T hx hy (t_btw T.hu T.hbx T.hby hx hy rx ry) (z0 cx).2.2.1 (z0 cy).2.2.2 (B0 M)
    · rw [T.he2] at a
      obtain ⟨t, hx, hy⟩ := line_t T.hu a
      exact on_two T hx hy (t_btw T.hu T.hbx T.hby hx hy rx ry) T.hdx T.hdy (BL M)
    · rw [T.hf1] at a
      obtain ⟨t, hx, hy⟩ := line_t T.hp a
      exact on_two T (z0 ax).1 (z0 ay).2.1 (B0 L) hx hy (t_btw T.hp T.hdx T.hdy hx hy rx ry)
    · rw [T.hf2] at a
      obtain ⟨t, hx, hy⟩ := line_t T.hp a
      exact on_two T T.hbx T.hby (BL L) hx hy (t_btw T.hp T.hdx T.hdy hx hy rx ry)
  · rintro ⟨⟨rx, ry⟩, he, hf⟩
    by_cases hD : u * q - v * p = 0
    · have e10 : e1 = 0 := by rw [hD, Int.mul_zero] at he2; omega
      have f10 : f1 = 0 := by rw [hD, Int.mul_zero] at hf2; omega
      obtain ⟨_, hpu, hqv⟩ : _ ∧ p = u ∧ q = v := by
        rcases dt with z | z
        · exact z
        · omega
      have e20 : e2 = 0 := by rw [hD, Int.mul_zero] at he2; omega
      have f20 : f2 = 0 := by rw [hD, Int.mul_zero] at hf2; omega
      have a1 := e10
      rw [T.he1] at a1
      obtain ⟨t, hx, hy⟩ := line_t T.hu a1
      have hdx := T.hdx
      have hdy := T.hdy
      have hbx := T.hbx
      have hby := T.hby
      have hu := T.hu
      subst hpu hqv
      clear he hf he2 hf2 T z0 B0 BL dt hD a1
      unfold mA
      by_cases c1 : Btw t L
      · exact .inr (.inl ⟨e10, within_of hu.fst hbx hx c1, within_of hu.snd hby hy c1⟩)
      · by_cases c2 : Btw (-t) M
        · refine .inr (.inr (.inr (.inl ⟨f10, within_of hu.fst hdx ?_ c2, within_of hu.snd hdy ?_ c2⟩)))
          · rw [hx, Int.neg_mul]
            omega
          · rw [hy, Int.neg_mul]
            omega
        · by_cases c3 : Btw (t + M) L
          · refine .inr (.inr (.inl ⟨e20, within_of hu.fst hbx ?_ c3, within_of hu.snd hby ?_ c3⟩))
            · rw [hdx, hx, Int.add_mul]
              omega
            · rw [hdy, hy, Int.add_mul]
              omega
          · exfalso
            unfold Btw at c1 c2 c3
            rcases hu with ⟨rfl, rfl⟩ | ⟨rfl, rfl⟩ | ⟨rfl, rfl⟩ | ⟨rfl, rfl⟩
            · clear ry
              omega
            · clear rx
              omega
            · clear ry
              omega
            · clear ry
              omega
    · have fin1 : ∀ t, f1 = t * (u * q - v * p) → Btw t L := fun t ht => by
        have := same_of_mul (x := t) (y := L - t) hD (by
          rw [Int.sub_mul, ← ht]
          omega)
        unfold Btw
        omega
      have fin2 : ∀ r, e1 = -(r * (u * q - v * p)) → Btw r M := fun r hr => by
        have := same_of_mul (x := r) (y := M - r) hD (by
          rw [Int.sub_mul]
          omega)
        unfold Btw
        omega
      by_cases z1 : e1 = 0
      · have a1 := z1
        rw [T.he1] at a1
        obtain ⟨t, hx, hy⟩ := line_t T.hu a1
        have b := fin1 t (T.at_ hx hy (z0 cx).2.2.1 (z0 cy).2.2.2).2
        exact .inr (.inl ⟨z1, within_of T.hu.fst T.hbx hx b, within_of T.hu.snd T.hby hy b⟩)
      · by_cases z2 : e2 = 0
        · have a1 := z2
          rw [T.he2] at a1
          obtain ⟨t, hx, hy⟩ := line_t T.hu a1
          have b := fin1 t (T.at_ hx hy T.hdx T.hdy).2
          exact .inr (.inr (.inl ⟨z2, within_of T.hu.fst T.hbx hx b, within_of T.hu.snd T.hby hy b⟩))
        · by_cases z3 : f1 = 0
          · have a1 := z3
            rw [T.hf1] at a1
            obtain ⟨t, hx, hy⟩ := line_t T.hp a1
            have b := fin2 t (T.at_ (z0 ax).1 (z0 ay).2.1 hx hy).1
            exact .inr (.inr (.inr (.inl ⟨z3, within_of T.hp.fst T.hdx hx b, within_of T.hp.snd T.hdy hy b⟩)))
          · by_cases z4 : f2 = 0
            · have a1 := z4
              rw [T.hf2] at a1
              obtain ⟨t, hx, hy⟩ := line_t T.hp a1
              have b := fin2 t (T.at_ T.hbx T.hby hx hy).1
              exact .inr (.inr (.inr (.inr ⟨z4, within_of T.hp.fst T.hdx hx b, within_of T.hp.snd T.hdy hy b⟩)))
            · exact .inl ⟨by omega, by omega⟩
end Wm
set_option Elab.async false
namespace Wm
open Eh
theorem rng_iff (a b c d : Int) : rngC a b c d ↔ min a b ≤ max c d ∧ min c d ≤ max a b := by
  unfold rngC
  omega
theorem btw_iff (a b c : Int) : btwC a b c = true ↔ min a b ≤ c ∧ c ≤ max a b := by
  unfold btwC
  rw [Bool.and_eq_true, decide_eq_true_iff, decide_eq_true_iff]
theorem two_of {a b c d : Corner} {u v L p q M : Int} (hu : Unit8 u v) (hbx : b.x = a.x + L * u) (hby : b.y = a.y + L * v) (hp : Unit8 p q) (hdx : d.x = c.x + M * p) (hdy : d.y = c.y + M * q) :
    Two a.x a.y b.x b.y c.x c.y d.x d.y L M u v p q (ell u v a c) (ell u v a d) (ell p q c a) (ell p q c b) := ⟨hu, hp, hbx, hby, hdx, hdy, rfl, rfl, rfl, rfl⟩
theorem mC_iff {a b c d : Corner} {u v L p q M : Int} (hL : L ≠ 0) (hbx : b.x = a.x + L * u) (hby : b.y = a.y + L * v) (hM : M ≠ 0) (hdx : d.x = c.x + M * p) (hdy : d.y = c.y + M * q) :
    meetC a b c d = true ↔ mA a.x a.y b.x b.y c.x c.y d.x d.y (ell u v a c) (ell u v a d) (ell p q c a) (ell p q c b) := by
  unfold meetC onC mA
  simp only [left_ell hbx hby, left_ell hdx hdy, Bool.or_eq_true, Bool.and_eq_true, decide_eq_true_iff, beq_iff_eq, pr_scale_lt hL, pr_scale_lt hM, pr_lt, ell0 hL, ell0 hM, btw_iff]
theorem mP_iff {a b c d : Corner} {u v L p q M : Int} (hL : L ≠ 0) (hbx : b.x = a.x + L * u) (hby : b.y = a.y + L * v) (hM : M ≠ 0) (hdx : d.x = c.x + M * p) (hdy : d.y = c.y + M * q) :
    meetP a b c d ↔ mB a.x a.y b.x b.y c.x c.y d.x d.y (ell u v a c) (ell u v a d) (ell p q c a) (ell p q c b) := by
  unfold meetP mB
  rw [rng_iff, rng_iff, left_ell hbx hby, left_ell hbx hby, left_ell hdx hdy, left_ell hdx hdy, pr_scale_le hL, pr_scale_le hM, pr_le, pr_le]
  constructor
  · rintro ⟨a, b, c, d⟩
    exact ⟨⟨a, b⟩, c, d⟩
  · rintro ⟨⟨a, b⟩, c, d⟩
    exact ⟨a, b, c, d⟩
theorem meetC_iff {a b c d : Corner} (hab : dirC a b = true) (hcd : dirC c d = true) : meetC a b c d = true ↔ meetP a b c d := by
  obtain ⟨u, v, L, hu, hL, hbx, hby⟩ := dir_unit hab
  obtain ⟨p, q, M, hp, hM, hdx, hdy⟩ := dir_unit hcd
  rw [mC_iff hL hbx hby hM hdx hdy, mP_iff hL hbx hby hM hdx hdy]
  exact two_any (two_of hu hbx hby hp hdx hdy) hL hM
theorem meetP_symm {a b c d : Corner} : meetP a b c d ↔ meetP c d a b := by
  unfold meetP rngC
  rw [Int.max_comm (min a.x b.x), Int.min_comm (max a.x b.x), Int.max_comm (min a.y b.y), Int.min_comm (max a.y b.y)]
  constructor
  · rintro ⟨a, b, c, d⟩
    exact ⟨a, b, d, c⟩
  · rintro ⟨a, b, c, d⟩
    exact ⟨a, b, d, c⟩
end Wm
set_option Elab.async false
namespace Wm
open Eh
def sm (f : Nat → Int) : Nat → Int
  | 0 => 0
  | n + 1 => sm f n + f n
theorem sm_congr {f g : Nat → Int} : ∀ {n : Nat}, (∀ j, j < n → f j = g j) → sm f n = sm g n
  | 0, _ => rfl
  | n + 1, h => by
    show sm f n + f n = sm g n + g n
    rw [sm_congr fun j hj => h j (by omega), h n (by omega)]
theorem sm_zero : ∀ n : Nat, sm (fun _ => 0) n = 0
  | 0 => rfl
  | n + 1 => by
    show sm (fun _ => 0) n + 0 = 0
    rw [sm_zero n]
    rfl
theorem sm_add (f g : Nat → Int) : ∀ n : Nat, sm (fun j => f j + g j) n = sm f n + sm g n
  | 0 => rfl
  | n + 1 => by
    show sm (fun j => f j + g j) n + (f n + g n) = sm f n + f n + (sm g n + g n)
    rw [sm_add f g n]
    omega
theorem sm_sub (f g : Nat → Int) : ∀ n : Nat, sm (fun j => f j - g j) n = sm f n - sm g n
  | 0 => rfl
  | n + 1 => by
    show sm (fun j => f j - g j) n + (f n - g n) = sm f n + f n - (sm g n + g n)
    rw [sm_sub f g n]
    omega
theorem sm_one {f g : Nat → Int} {o : Nat} : ∀ {n : Nat}, o < n → (∀ j, j < n → j ≠ o → f j = g j) → sm f n = sm g n + (f o - g o)
  | 0, h, _ => by omega
  | n + 1, ho, h => by
    show sm f n + f n = sm g n + g n + (f o - g o)
    by_cases c : o = n
    · subst c
      rw [sm_congr (f := f) (g := g) fun j hj => h j (by omega) (by omega)]
      omega
    · rw [sm_one (f := f) (g := g) (o := o) (n := n) (by omega) fun j hj hne => h j (by omega) hne, h n (by omega) (by omega)]
      omega
theorem sm_swap (f : Nat → Nat → Int) (m : Nat) : ∀ n : Nat, sm (fun j => sm (f j) m) n = sm (fun k => sm (fun j => f j k) n) m
  | 0 => (sm_zero m).symm
  | n + 1 => by
    show sm (fun j => sm (f j) m) n + sm (f n) m = sm (fun k => sm (fun j => f j k) n + f n k) m
    rw [sm_swap f m n, sm_add]
theorem sm_tele (G : Nat → Int) : ∀ n : Nat, sm (fun j => G (j + 1) - G j) n = G n - G 0
  | 0 => by
    show (0 : Int) = G 0 - G 0
    omega
  | n + 1 => by
    show sm (fun j => G (j + 1) - G j) n + (G (n + 1) - G n) = _
    rw [sm_tele G n]
    omega
theorem sm_nonneg {f : Nat → Int} : ∀ {n : Nat}, (∀ j, j < n → 0 ≤ f j) → 0 ≤ sm f n
  | 0, _ => Int.le_refl _
  | n + 1, h => by
    have a := sm_nonneg (f := f) (n := n) fun j hj => h j (by omega)
    have b := h n (by omega)
    show 0 ≤ sm f n + f n
    omega
theorem sm_pos {f : Nat → Int} {o : Nat} : ∀ {n : Nat}, (∀ j, j < n → 0 ≤ f j) → o < n → 0 < f o → 0 < sm f n
  | 0, _, h, _ => by omega
  | n + 1, h, ho, hp => by
    show 0 < sm f n + f n
    have b := h n (by omega)
    by_cases c : o = n
    · subst c
      have a := sm_nonneg (f := f) (n := o) fun j hj => h j (by omega)
      omega
    · have a := sm_pos (f := f) (o := o) (n := n) (fun j hj => h j (by omega)) (by omega) hp
      omega
theorem sm_neg (f : Nat → Int) : ∀ n : Nat, sm (fun j => - f j) n = - sm f n
  | 0 => rfl
  | n + 1 => by
    show sm (fun j => - f j) n + - f n = - (sm f n + f n)
    rw [sm_neg f n]
    omega
def west (s m : Nat → Int) (n : Nat) (x : Int) : Int := sm (fun j => if m j < x then s j else 0) n
theorem west_step {s m : Nat → Int} {n : Nat} {j : Nat} (hj : j < n) (ap : ∀ i, i < n → i ≠ j → s i ≠ 0 → m i ≠ m j) : west s m n (m j + 1) = west s m n (m j) + s j := by
  unfold west
  rw [sm_one (g := fun i => if m i < m j then s i else 0) hj]
  · rw [if_pos (by omega), if_neg (by omega)]
    omega
  · intro i hi hne
    by_cases z : s i = 0
    · rw [z]
      simp
    · have := ap i hi hne z
      by_cases c : m i < m j
      · rw [if_pos c, if_pos (by omega)]
      · rw [if_neg c, if_neg (by omega)]
theorem west_still {s m : Nat → Int} {n : Nat} {x : Int} (h : ∀ i, i < n → s i ≠ 0 → m i ≠ x) : west s m n (x + 1) = west s m n x := by
  unfold west
  refine sm_congr fun i hi => ?_
  by_cases z : s i = 0
  · rw [z]
    simp
  · have := h i hi z
    by_cases c : m i < x
    · rw [if_pos c, if_pos (by omega)]
    · rw [if_neg c, if_neg (by omega)]
structure Lev (s m : Nat → Int) (n : Nat) (c : Int) : Prop where
  sg : ∀ j, j < n → s j = 1 ∨ s j = 0 ∨ s j = -1
  pos : ∀ j, j < n → s j ≠ 0 → 0 ≤ m j
  apart : ∀ i j, i < n → j < n → i ≠ j → s i ≠ 0 → s j ≠ 0 → m i ≠ m j
  up : ∀ j, j < n → s j = 1 → west s m n (m j) = c
  down : ∀ j, j < n → s j = -1 → west s m n (m j) = c + 1
theorem Lev.c01 {s m : Nat → Int} {n : Nat} {c : Int} (h : Lev s m n c) : ∀ (b : Nat) (j : Nat), j < n → s j ≠ 0 → m j ≤ b → c = 0 ∨ c = -1 := by
  intro b
  induction b using Nat.strongRecOn with
  | ind b ih =>
    intro j hj hs hm
    by_cases q : ∃ i, i < n ∧ s i ≠ 0 ∧ m i < m j
    · obtain ⟨i, hi, hsi, hmi⟩ := q
      have p := h.pos i hi hsi
      exact ih (m i).toNat (by omega) i hi hsi (by omega)
    · have z : west s m n (m j) = 0 := by
        unfold west
        rw [sm_congr (g := fun _ => 0), sm_zero]
        intro i hi
        by_cases zi : s i = 0
        · rw [zi]; simp
        · rw [if_neg fun l => q ⟨i, hi, zi, l⟩]
      rcases h.sg j hj with e | e | e
      · have := h.up j hj e
        omega
      · exact absurd e hs
      · have := h.down j hj e
        omega
theorem Lev.west {s m : Nat → Int} {n : Nat} {c : Int} (h : Lev s m n c) (hc : c = 0 ∨ c = -1) : ∀ x : Nat, west s m n x = c ∨ west s m n x = c + 1
  | 0 => by
    have z : Wm.west s m n ((0 : Nat) : Int) = 0 := by
      unfold Wm.west
      rw [sm_congr (g := fun _ => 0), sm_zero]
      intro i hi
      by_cases zi : s i = 0
      · rw [zi]; simp
      · have := h.pos i hi zi
        rw [if_neg (by omega)]
    omega
  | x + 1 => by
    have ih := h.west hc x
    have e : ((x + 1 : Nat) : Int) = (x : Int) + 1 := by omega
    rw [e]
    by_cases q : ∃ i, i < n ∧ s i ≠ 0 ∧ m i = (x : Int)
    · obtain ⟨i, hi, hs, hm⟩ := q
      have st := west_step (s := s) (m := m) hi fun i' hi' hne hs' => h.apart i' i hi' hi hne hs' hs
      rw [hm] at st
      rcases h.sg i hi with e1 | e1 | e1
      · have := h.up i hi e1
        rw [hm] at this
        omega
      · exact absurd e1 hs
      · have := h.down i hi e1
        rw [hm] at this
        omega
    · rw [west_still fun i hi hs hm => q ⟨i, hi, hs, hm⟩]
      exact ih
theorem sum_west (s m : Nat → Int) (M : Nat) : ∀ n : Nat, (∀ j, j < n → s j ≠ 0 → 0 ≤ m j ∧ m j ≤ M) → sm (fun j => s j * m j) n = (M : Int) * sm s n - sm (fun t => west s m n ((t : Int) + 1)) M
  | 0, _ => by
    have : sm (fun t => west s m 0 ((t : Int) + 1)) M = 0 := sm_zero M
    rw [this]
    simp [sm]
  | n + 1, h => by
    have e : sm (fun t => west s m (n + 1) ((t : Int) + 1)) M = sm (fun t => west s m n ((t : Int) + 1)) M + sm (fun t => if m n < (t : Int) + 1 then s n else 0) M := by
      rw [← sm_add]
      rfl
    rw [e]
    show sm (fun j => s j * m j) n + s n * m n = (M : Int) * (sm s n + s n) - _
    rw [sum_west s m M n fun j hj hs => h j (by omega) hs, Int.mul_add]
    have k : sm (fun t => if m n < (t : Int) + 1 then s n else 0) M = (M : Int) * s n - s n * m n := by
      by_cases z : s n = 0
      · rw [z]
        simp
        exact sm_zero M
      · have ⟨p1, p2⟩ := h n (by omega) z
        have g : ∀ M' : Nat, (M' : Int) ≤ M → sm (fun t => if m n < (t : Int) + 1 then s n else 0) M' = if (M' : Int) ≤ m n then 0 else ((M' : Int) - m n) * s n := by
          intro M'
          induction M' with
          | zero => intro _; rw [if_pos (by omega)]; rfl
          | succ M' ih =>
            intro hM
            show sm (fun t => if m n < (t : Int) + 1 then s n else 0) M' + (if m n < (M' : Int) + 1 then s n else 0) = _
            rw [ih (by omega)]
            by_cases c : m n < (M' : Int) + 1
            · rw [if_pos c, if_neg (by omega : ¬ ((M' + 1 : Nat) : Int) ≤ m n)]
              by_cases d : (M' : Int) ≤ m n
              · rw [if_pos d]
                have : ((M' + 1 : Nat) : Int) - m n = 1 := by omega
                rw [this]
                omega
              · rw [if_neg d]
                have : ((M' + 1 : Nat) : Int) - m n = ((M' : Int) - m n) + 1 := by omega
                rw [this, Int.add_mul]
                omega
            · rw [if_neg c, if_pos (by omega), if_pos (by omega)]
              rfl
        rw [g M (Int.le_refl _)]
        by_cases c : (M : Int) ≤ m n
        · have : (M : Int) = m n := by omega
          rw [if_pos c, this, Int.mul_comm]
          omega
        · rw [if_neg c, Int.sub_mul, Int.mul_comm (m n)]
    rw [k]
    omega
theorem Lev.sum {s m : Nat → Int} {n : Nat} {c : Int} {M : Nat} (h : Lev s m n c) (hc : c = 0 ∨ c = -1) (hM : ∀ j, j < n → s j ≠ 0 → m j < M) (tot : sm s n = 0) :
    (c = 0 → sm (fun j => s j * m j) n ≤ 0 ∧ ((∃ j, j < n ∧ s j = 1) → sm (fun j => s j * m j) n < 0)) ∧ (c = -1 → 0 ≤ sm (fun j => s j * m j) n ∧ ((∃ j, j < n ∧ s j = -1) → 0 < sm (fun j => s j * m j) n)) := by
  rw [sum_west s m M n fun j hj hs => ⟨h.pos j hj hs, Int.le_of_lt (hM j hj hs)⟩, tot, Int.mul_zero]
  have w := h.west hc
  have cast : ∀ t : Nat, ((t : Int) + 1) = ((t + 1 : Nat) : Int) := fun t => by omega
  constructor
  · intro e
    subst e
    have a : ∀ t, t < M → 0 ≤ Wm.west s m n ((t : Int) + 1) := fun t _ => by
      rw [cast]
      have := w (t + 1)
      omega
    have b := sm_nonneg (f := fun t => Wm.west s m n ((t : Int) + 1)) (n := M) a
    refine ⟨by omega, ?_⟩
    rintro ⟨j, hj, e⟩
    have p := h.pos j hj (by omega)
    have st := west_step (s := s) (m := m) hj fun i' hi' hne hs' => h.apart i' j hi' hj hne hs' (by omega)
    have u := h.up j hj e
    have hm := hM j hj (by omega)
    have d := sm_pos (f := fun t => Wm.west s m n ((t : Int) + 1)) (n := M) (o := (m j).toNat) a (by omega) (by
      have : (((m j).toNat : Nat) : Int) = m j := by omega
      show 0 < Wm.west s m n ((((m j).toNat : Nat) : Int) + 1)
      rw [this, st, u, e]
      decide)
    omega
  · intro e
    subst e
    have a : ∀ t, t < M → 0 ≤ - Wm.west s m n ((t : Int) + 1) := fun t _ => by
      rw [cast]
      have := w (t + 1)
      omega
    have b := sm_nonneg (f := fun t => - Wm.west s m n ((t : Int) + 1)) (n := M) a
    rw [sm_neg] at b
    refine ⟨by omega, ?_⟩
    rintro ⟨j, hj, e⟩
    have p := h.pos j hj (by omega)
    have st := west_step (s := s) (m := m) hj fun i' hi' hne hs' => h.apart i' j hi' hj hne hs' (by omega)
    have u := h.down j hj e
    have hm := hM j hj (by omega)
    have d := sm_pos (f := fun t => - Wm.west s m n ((t : Int) + 1)) (n := M) (o := (m j).toNat) a (by omega) (by
      have : (((m j).toNat : Nat) : Int) = m j := by omega
      show 0 < - Wm.west s m n ((((m j).toNat : Nat) : Int) + 1)
      rw [this, st, u, e]
      decide)
    rw [sm_neg] at d
    omega
end Wm
set_option Elab.async false
namespace Wm
open Eh
structure Edge (a b : Corner) (u v L : Int) : Prop where
  un : Unit8 u v
  ne : L ≠ 0
  hx : b.x = a.x + L * u
  hy : b.y = a.y + L * v
def On (a b : Corner) (X Y : Int) : Prop := ∃ u v L t, Edge a b u v L ∧ X = a.x + t * u ∧ Y = a.y + t * v ∧ Btw t L
theorem on_on {a b c d : Corner} {X Y : Int} (h : On a b X Y) (k : On c d X Y) : meetC a b c d = true := by
  obtain ⟨u, v, L, t, E, h1, h2, h3⟩ := h
  obtain ⟨p, q, M, r, G, h4, h5, h6⟩ := k
  rw [mC_iff E.ne E.hx E.hy G.ne G.hx G.hy]
  have T := two_of E.un E.hx E.hy G.un G.hx G.hy
  exact (two_any T E.ne G.ne).mpr (on_two T h1 h2 h3 h4 h5 h6)
theorem on_bend {a b d : Corner} {X Y : Int} (nb : alongC a b b d = false) (h : On a b X Y) (k : On b d X Y) : X = b.x ∧ Y = b.y := by
  obtain ⟨u, v, L, t, E, h1, h2, _⟩ := h
  obtain ⟨p, q, M, r, G, h4, h5, _⟩ := k
  have nb : (b.x - a.x) * (d.y - b.y) - (b.y - a.y) * (d.x - b.x) ≠ 0 := by
    unfold alongC at nb
    exact beq_eq_false_iff_ne.mp nb
  have n2 : u * q - v * p ≠ 0 := by
    intro z
    apply nb
    have e1 : b.x - a.x = L * u := by have := E.hx; omega
    have e2 : b.y - a.y = L * v := by have := E.hy; omega
    have e3 : d.x - b.x = M * p := by have := G.hx; omega
    have e4 : d.y - b.y = M * q := by have := G.hy; omega
    rw [e1, e2, e3, e4]
    have : L * u * (M * q) - L * v * (M * p) = L * M * (u * q - v * p) := by
      rw [Int.mul_sub]
      simp only [Int.mul_assoc, Int.mul_left_comm]
    rw [this, z, Int.mul_zero]
  have hx := E.hx
  have hy := E.hy
  rcases E.un with ⟨rfl, rfl⟩ | ⟨rfl, rfl⟩ | ⟨rfl, rfl⟩ | ⟨rfl, rfl⟩ <;> rcases G.un with ⟨rfl, rfl⟩ | ⟨rfl, rfl⟩ | ⟨rfl, rfl⟩ | ⟨rfl, rfl⟩
  all_goals first | omega | (exfalso; apply n2; decide)
def slo (a b : Corner) : Int := if b.x = a.x then 0 else if b.x - a.x = b.y - a.y then 1 else -1
def xe (a b : Corner) (Y : Int) : Int := a.x + slo a b * (Y - a.y)
def sg (a b : Corner) (k : Int) : Int := if a.y ≤ k ∧ k < b.y then 1 else if b.y ≤ k ∧ k < a.y then -1 else 0
def mid (a b : Corner) (k : Int) : Int := 2 * xe a b k + slo a b
theorem xe_succ (a b : Corner) (Y : Int) : xe a b (Y + 1) = xe a b Y + slo a b := by
  unfold xe
  have : Y + 1 - a.y = (Y - a.y) + 1 := by omega
  rw [this, Int.mul_add]
  omega
theorem slo_cases (a b : Corner) : slo a b = 0 ∨ slo a b = 1 ∨ slo a b = -1 := by
  unfold slo
  split
  · exact .inl rfl
  · split
    · exact .inr (.inl rfl)
    · exact .inr (.inr rfl)
theorem forms {a b : Corner} (h : dirC a b = true) : (b.y = a.y ∧ b.x ≠ a.x ∧ Edge a b 1 0 (b.x - a.x)) ∨ (b.y ≠ a.y ∧ slo a b = 0 ∧ b.x = a.x ∧ Edge a b 0 1 (b.y - a.y)) ∨ (b.y ≠ a.y ∧ slo a b = 1 ∧ b.x - a.x = b.y - a.y ∧ Edge a b 1 1 (b.x - a.x)) ∨ (b.y ≠ a.y ∧ slo a b = -1 ∧ b.x - a.x = -(b.y - a.y) ∧ Edge a b 1 (-1) (b.x - a.x)) := by
  obtain ⟨u, v, L, hu, hL, hx, hy⟩ := dir_unit h
  unfold slo
  rcases hu with ⟨rfl, rfl⟩ | ⟨rfl, rfl⟩ | ⟨rfl, rfl⟩ | ⟨rfl, rfl⟩
  · exact .inl ⟨by omega, by omega, .inl ⟨rfl, rfl⟩, by omega, by omega, by omega⟩
  · exact .inr (.inl ⟨by omega, by rw [if_pos (by omega)], by omega, .inr (.inl ⟨rfl, rfl⟩), by omega, by omega, by omega⟩)
  · exact .inr (.inr (.inl ⟨by omega, by rw [if_neg (by omega), if_pos (by omega)], by omega, .inr (.inr (.inl ⟨rfl, rfl⟩)), by omega, by omega, by omega⟩))
  · exact .inr (.inr (.inr ⟨by omega, by rw [if_neg (by omega), if_neg (by omega)], by omega, .inr (.inr (.inr ⟨rfl, rfl⟩)), by omega, by omega, by omega⟩))
theorem sg_ne {a b : Corner} {k : Int} (h : sg a b k ≠ 0) : (a.y ≤ k ∧ k < b.y ∧ sg a b k = 1) ∨ (b.y ≤ k ∧ k < a.y ∧ sg a b k = -1) := by
  unfold sg at *
  by_cases c : a.y ≤ k ∧ k < b.y
  · rw [if_pos c]
    exact .inl ⟨c.1, c.2, rfl⟩
  · rw [if_neg c] at h ⊢
    by_cases d : b.y ≤ k ∧ k < a.y
    · rw [if_pos d]
      exact .inr ⟨d.1, d.2, rfl⟩
    · rw [if_neg d] at h
      exact absurd rfl h
theorem xe_on {a b : Corner} (h : dirC a b = true) {Y : Int} (hne : b.y ≠ a.y) (hY : (a.y ≤ Y ∧ Y ≤ b.y) ∨ (b.y ≤ Y ∧ Y ≤ a.y)) : On a b (xe a b Y) Y := by
  unfold xe
  rcases forms h with ⟨e, _⟩ | ⟨_, s, e, E⟩ | ⟨_, s, e, E⟩ | ⟨_, s, e, E⟩
  · exact absurd e hne
  · rw [s]
    exact ⟨0, 1, _, Y - a.y, E, by omega, by omega, by unfold Btw; omega⟩
  · rw [s]
    exact ⟨1, 1, _, Y - a.y, E, by omega, by omega, by unfold Btw; omega⟩
  · rw [s]
    exact ⟨1, -1, _, -(Y - a.y), E, by omega, by omega, by unfold Btw; omega⟩
theorem flat_on {a b : Corner} (h : dirC a b = true) {X : Int} (he : b.y = a.y) (hX : (a.x ≤ X ∧ X ≤ b.x) ∨ (b.x ≤ X ∧ X ≤ a.x)) : On a b X a.y := by
  rcases forms h with ⟨e, _, E⟩ | ⟨e, _⟩ | ⟨e, _⟩ | ⟨e, _⟩
  · exact ⟨1, 0, _, X - a.x, E, by omega, by omega, by unfold Btw; omega⟩
  · exact absurd he e
  · exact absurd he e
  · exact absurd he e
theorem end_on {a b : Corner} (h : dirC a b = true) : On a b b.x b.y := by
  obtain ⟨u, v, L, hu, hL, hx, hy⟩ := dir_unit h
  exact ⟨u, v, L, L, ⟨hu, hL, hx, hy⟩, hx, hy, by unfold Btw; omega⟩
theorem xe_end {a b : Corner} (h : dirC a b = true) (hne : b.y ≠ a.y) : xe a b b.y = b.x := by
  unfold xe
  rcases forms h with ⟨e, _⟩ | ⟨_, s, e, E⟩ | ⟨_, s, e, E⟩ | ⟨_, s, e, E⟩
  · exact absurd e hne
  all_goals rw [s]; omega
theorem xe_start (a b : Corner) : xe a b a.y = a.x := by
  unfold xe
  rw [Int.sub_self, Int.mul_zero]
  omega
theorem mid_on {a b : Corner} (h : dirC a b = true) {k : Int} (hs : sg a b k ≠ 0) : ∃ u v L t, Edge a b u v L ∧ mid a b k = 2 * a.x + t * u ∧ 2 * k + 1 = 2 * a.y + t * v ∧ Btw t (2 * L) := by
  have g := sg_ne hs
  unfold mid xe Btw
  rcases forms h with ⟨e, _⟩ | ⟨_, s, e, E⟩ | ⟨_, s, e, E⟩ | ⟨_, s, e, E⟩
  · omega
  · rw [s]
    exact ⟨0, 1, _, 2 * k + 1 - 2 * a.y, E, by omega, by omega, by omega⟩
  · rw [s]
    exact ⟨1, 1, _, 2 * k + 1 - 2 * a.y, E, by omega, by omega, by omega⟩
  · rw [s]
    exact ⟨1, -1, _, -(2 * k + 1 - 2 * a.y), E, by omega, by omega, by omega⟩
theorem Two.double {ax ay bx by_ cx cy dx dy L M u v p q e1 e2 f1 f2 : Int} (T : Two ax ay bx by_ cx cy dx dy L M u v p q e1 e2 f1 f2) : Two (2 * ax) (2 * ay) (2 * bx) (2 * by_) (2 * cx) (2 * cy) (2 * dx) (2 * dy) (2 * L) (2 * M) u v p q (2 * e1) (2 * e2) (2 * f1) (2 * f2) := by
  obtain ⟨hu, hp, hbx, hby, hdx, hdy, h1, h2, h3, h4⟩ := T
  refine ⟨hu, hp, ?_, ?_, ?_, ?_, ?_, ?_, ?_, ?_⟩
  · rw [hbx]; grind
  · rw [hby]; grind
  · rw [hdx]; grind
  · rw [hdy]; grind
  · rw [h1]; grind
  · rw [h2]; grind
  · rw [h3]; grind
  · rw [h4]; grind
theorem mB_half {ax ay bx by_ cx cy dx dy e1 e2 f1 f2 : Int} (h : mB (2 * ax) (2 * ay) (2 * bx) (2 * by_) (2 * cx) (2 * cy) (2 * dx) (2 * dy) (2 * e1) (2 * e2) (2 * f1) (2 * f2)) : mB ax ay bx by_ cx cy dx dy e1 e2 f1 f2 := by
  obtain ⟨⟨⟨a, b⟩, c, d⟩, e, f⟩ := h
  exact ⟨⟨⟨by omega, by omega⟩, by omega, by omega⟩, by omega, by omega⟩
theorem half_meet {a b c d : Corner} (hab : dirC a b = true) (hcd : dirC c d = true) {k : Int} (h1 : sg a b k ≠ 0) (h2 : sg c d k ≠ 0) (hm : mid a b k = mid c d k) : meetC a b c d = true := by
  obtain ⟨u, v, L, t, E, x1, y1, t1⟩ := mid_on hab h1
  obtain ⟨p, q, M, r, G, x2, y2, t2⟩ := mid_on hcd h2
  rw [mC_iff E.ne E.hx E.hy G.ne G.hx G.hy]
  have T := two_of E.un E.hx E.hy G.un G.hx G.hy
  exact (two_any T E.ne G.ne).mpr (mB_half (on_two T.double x1 y1 t1 (hm ▸ x2) y2 t2))
theorem half_bend {a b d : Corner} (hab : dirC a b = true) (hbd : dirC b d = true) (nb : alongC a b b d = false) {k : Int} (h1 : sg a b k ≠ 0) (h2 : sg b d k ≠ 0) : mid a b k ≠ mid b d k := by
  have g1 := sg_ne h1
  have g2 := sg_ne h2
  intro hm
  have nb : (b.x - a.x) * (d.y - b.y) - (b.y - a.y) * (d.x - b.x) ≠ 0 := by
    unfold alongC at nb
    exact beq_eq_false_iff_ne.mp nb
  unfold mid xe at hm
  rcases forms hab with ⟨e, _⟩ | ⟨_, s, e, E⟩ | ⟨_, s, e, E⟩ | ⟨_, s, e, E⟩
  · omega
  all_goals
    rcases forms hbd with ⟨e', _⟩ | ⟨_, s', e', G⟩ | ⟨_, s', e', G⟩ | ⟨_, s', e', G⟩
    · omega
    all_goals
      rw [s, s'] at hm
      first
      | omega
      | (apply nb
         have t1 : b.x - a.x = 0 := by omega
         have t2 : d.x - b.x = 0 := by omega
         rw [t1, t2, Int.zero_mul, Int.mul_zero]
         rfl)
      | (apply nb
         rw [e, e', Int.mul_comm (b.y - a.y)]
         omega)
      | (apply nb
         rw [e, e', Int.neg_mul, Int.mul_neg]
         omega)
end Wm
set_option Elab.async false
namespace Wm
open Eh
structure Poly (P : Nat → Corner) (n : Nat) : Prop where
  n3 : 3 ≤ n
  per : ∀ i, P (i + n) = P i
  dir : ∀ i, dirC (P i) (P (i + 1)) = true
  bend : ∀ i, alongC (P i) (P (i + 1)) (P (i + 1)) (P (i + 2)) = false
  apart : ∀ i j, i < n → j < n → neighbours n i j = false → meetC (P i) (P (i + 1)) (P j) (P (j + 1)) = false
section
variable {P : Nat → Corner} {n : Nat}
theorem Poly.mod (h : Poly P n) : ∀ i, P (i % n) = P i := by
  intro i
  induction i using Nat.strongRecOn with
  | ind i ih =>
    by_cases c : i < n
    · rw [Nat.mod_eq_of_lt c]
    · have e : i = (i - n) + n := by omega
      have n3 := h.n3
      rw [Nat.mod_eq_sub_mod (by omega), ih (i - n) (by omega)]
      conv => rhs; rw [e]
      exact (h.per _).symm
theorem Poly.mod1 (h : Poly P n) (i : Nat) : P (i % n + 1) = P (i + 1) := by
  rw [← h.mod (i % n + 1), ← h.mod (i + 1), Nat.mod_add_mod]
theorem Poly.two_lines (h : Poly P n) {i j : Nat} (hi : i < n) (hj : j < n) (hne : i ≠ j) {X Y : Int} (o1 : On (P i) (P (i + 1)) X Y) (o2 : On (P j) (P (j + 1)) X Y) :
    ((i + 1) % n = j ∧ X = (P (i + 1)).x ∧ Y = (P (i + 1)).y) ∨ ((j + 1) % n = i ∧ X = (P (j + 1)).x ∧ Y = (P (j + 1)).y) := by
  by_cases c1 : (i + 1) % n = j
  · refine .inl ⟨c1, ?_⟩
    have e1 : P j = P (i + 1) := by rw [← c1]; exact h.mod _
    have e2 : P (j + 1) = P (i + 2) := by rw [← c1]; exact h.mod1 _
    rw [e1, e2] at o2
    exact on_bend (h.bend i) o1 o2
  · by_cases c2 : (j + 1) % n = i
    · refine .inr ⟨c2, ?_⟩
      have e1 : P i = P (j + 1) := by rw [← c2]; exact h.mod _
      have e2 : P (i + 1) = P (j + 2) := by rw [← c2]; exact h.mod1 _
      rw [e1, e2] at o1
      exact on_bend (h.bend j) o2 o1
    · have nb : neighbours n i j = false := by
        unfold neighbours
        simp [hne, c1, c2]
      have := h.apart i j hi hj nb
      rw [on_on o1 o2] at this
      cases this
theorem Poly.halves (h : Poly P n) {i j : Nat} (hi : i < n) (hj : j < n) (hne : i ≠ j) {k : Int} (h1 : sg (P i) (P (i + 1)) k ≠ 0) (h2 : sg (P j) (P (j + 1)) k ≠ 0) : mid (P i) (P (i + 1)) k ≠ mid (P j) (P (j + 1)) k := by
  by_cases c1 : (i + 1) % n = j
  · have e1 : P j = P (i + 1) := by rw [← c1]; exact h.mod _
    have e2 : P (j + 1) = P (i + 2) := by rw [← c1]; exact h.mod1 _
    rw [e1, e2] at h2 ⊢
    exact half_bend (h.dir i) (h.dir (i + 1)) (h.bend i) h1 h2
  · by_cases c2 : (j + 1) % n = i
    · have e1 : P i = P (j + 1) := by rw [← c2]; exact h.mod _
      have e2 : P (i + 1) = P (j + 2) := by rw [← c2]; exact h.mod1 _
      rw [e1, e2] at h1 ⊢
      exact (half_bend (h.dir j) (h.dir (j + 1)) (h.bend j) h2 h1).symm
    · have nb : neighbours n i j = false := by
        unfold neighbours
        simp [hne, c1, c2]
      intro hm
      have := h.apart i j hi hj nb
      rw [half_meet (h.dir i) (h.dir j) h1 h2 hm] at this
      cases this
def belowW (P : Nat → Corner) (n : Nat) (Y k T : Int) : Int := sm (fun j => if xe (P j) (P (j + 1)) Y < T then sg (P j) (P (j + 1)) k else 0) n
theorem edge_level {a b : Corner} (h : dirC a b = true) {Y T : Int} (fl : b.y = a.y → a.y = Y → ¬ ((a.x < T ∧ T ≤ b.x) ∨ (b.x < T ∧ T ≤ a.x))) :
    (if xe a b Y < T then sg a b (Y - 1) else 0) - (if xe a b Y < T then sg a b Y else 0) = (if b.y = Y ∧ b.x < T then 1 else 0) - (if a.y = Y ∧ a.x < T then 1 else 0) := by
  unfold sg xe
  rcases forms h with ⟨e, ne, _⟩ | ⟨ne, s, e, _⟩ | ⟨ne, s, e, _⟩ | ⟨ne, s, e, _⟩
  · have g1 : ¬ (a.y ≤ Y - 1 ∧ Y - 1 < b.y) := by omega
    have g2 : ¬ (b.y ≤ Y - 1 ∧ Y - 1 < a.y) := by omega
    have g3 : ¬ (a.y ≤ Y ∧ Y < b.y) := by omega
    have g4 : ¬ (b.y ≤ Y ∧ Y < a.y) := by omega
    rw [if_neg g1, if_neg g2, if_neg g3, if_neg g4]
    by_cases c : a.y = Y
    · have := fl e c
      by_cases d : a.x < T
      · rw [if_pos (show b.y = Y ∧ b.x < T from ⟨by omega, by omega⟩), if_pos (show a.y = Y ∧ a.x < T from ⟨c, d⟩)]
        split <;> rfl
      · rw [if_neg (by omega : ¬ (b.y = Y ∧ b.x < T)), if_neg (by omega : ¬ (a.y = Y ∧ a.x < T))]
        split <;> rfl
    · rw [if_neg (by omega : ¬ (b.y = Y ∧ b.x < T)), if_neg (by omega : ¬ (a.y = Y ∧ a.x < T))]
      split <;> rfl
  all_goals
    rw [s]
    clear fl
    by_cases c1 : a.y ≤ Y - 1 ∧ Y - 1 < b.y <;> by_cases c2 : b.y ≤ Y - 1 ∧ Y - 1 < a.y <;> by_cases c3 : a.y ≤ Y ∧ Y < b.y <;> by_cases c4 : b.y ≤ Y ∧ Y < a.y <;> simp only [c1, c2, c3, c4, and_self, if_true, if_false] <;> (repeat' split) <;> omega
theorem Poly.level (h : Poly P n) {Y T : Int} (fl : ∀ j, j < n → (P (j + 1)).y = (P j).y → (P j).y = Y → ¬ (((P j).x < T ∧ T ≤ (P (j + 1)).x) ∨ ((P (j + 1)).x < T ∧ T ≤ (P j).x))) : belowW P n Y (Y - 1) T = belowW P n Y Y T := by
  have e : sm (fun j => (if xe (P j) (P (j + 1)) Y < T then sg (P j) (P (j + 1)) (Y - 1) else 0) - (if xe (P j) (P (j + 1)) Y < T then sg (P j) (P (j + 1)) Y else 0)) n = sm (fun j => (if (P (j + 1)).y = Y ∧ (P (j + 1)).x < T then (1 : Int) else 0) - (if (P j).y = Y ∧ (P j).x < T then 1 else 0)) n :=
    sm_congr fun j hj => edge_level (h.dir j) (fl j hj)
  rw [sm_sub, sm_tele (fun j => if (P j).y = Y ∧ (P j).x < T then (1 : Int) else 0)] at e
  have z : P n = P 0 := by
    have := h.per 0
    rw [Nat.zero_add] at this
    exact this
  rw [z] at e
  unfold belowW
  omega
end
end Wm
set_option Elab.async false
namespace Wm
open Eh
section
variable {P : Nat → Corner} {n : Nat}
abbrev sgP (P : Nat → Corner) (i : Nat) (k : Int) : Int := sg (P i) (P (i + 1)) k
abbrev xeP (P : Nat → Corner) (i : Nat) (Y : Int) : Int := xe (P i) (P (i + 1)) Y
abbrev midP (P : Nat → Corner) (i : Nat) (k : Int) : Int := mid (P i) (P (i + 1)) k
def westP (P : Nat → Corner) (n : Nat) (k X : Int) : Int := west (fun j => sgP P j k) (fun j => midP P j k) n X
def leftOf (P : Nat → Corner) (n : Nat) (i : Nat) (k : Int) : Int := westP P n k (midP P i k) - (if sgP P i k = 1 then 0 else 1)
theorem mid_order {a b c d : Corner} {Y k : Int} (hk : k = Y - 1 ∨ k = Y) (h : xe a b Y < xe c d Y) : mid a b k ≤ mid c d k := by
  unfold mid
  have s1 := slo_cases a b
  have s2 := slo_cases c d
  rcases hk with rfl | rfl
  · have e1 := xe_succ a b (Y - 1)
    have e2 := xe_succ c d (Y - 1)
    rw [show Y - 1 + 1 = Y by omega] at e1 e2
    omega
  · omega
theorem Poly.node_west (h : Poly P n) {i o : Nat} (hi : i < n) (ho : o < n) {Y k xl xr : Int} (hk : k = Y - 1 ∨ k = Y) (si : sgP P i k ≠ 0) (xi : xl ≤ xeP P i Y ∧ xeP P i Y ≤ xr) (xo : xl ≤ xeP P o Y ∧ xeP P o Y ≤ xr)
    (other : ∀ j, j < n → j ≠ i → j ≠ o → sgP P j k ≠ 0 → xeP P j Y < xl ∨ xr < xeP P j Y) :
    westP P n k (midP P i k) = belowW P n Y k xl + (if midP P o k < midP P i k then sgP P o k else 0) := by
  unfold westP west belowW
  rw [sm_one (g := fun j => if xe (P j) (P (j + 1)) Y < xl then sg (P j) (P (j + 1)) k else 0) ho]
  · rw [if_neg (show ¬ xe (P o) (P (o + 1)) Y < xl from Int.not_lt.mpr xo.1), Int.sub_zero]
  · intro j hj hne
    by_cases c : j = i
    · subst c
      rw [if_neg (Int.lt_irrefl _), if_neg (show ¬ xe (P j) (P (j + 1)) Y < xl from Int.not_lt.mpr xi.1)]
    · by_cases z : sgP P j k = 0
      · show (if _ then sgP P j k else 0) = (if _ then sgP P j k else 0)
        rw [z]
        simp
      · have ap := h.halves hj hi c z si
        have x1 : xl ≤ xe (P i) (P (i + 1)) Y := xi.1
        have x2 : xe (P i) (P (i + 1)) Y ≤ xr := xi.2
        rcases other j hj c hne z with q | q
        · have q : xe (P j) (P (j + 1)) Y < xl := q
          have := mid_order (a := P j) (b := P (j + 1)) (c := P i) (d := P (i + 1)) hk (by omega)
          rw [if_pos q, if_pos (show midP P j k < midP P i k from Int.lt_iff_le_and_ne.mpr ⟨this, ap⟩)]
        · have q : xr < xe (P j) (P (j + 1)) Y := q
          have := mid_order (a := P i) (b := P (i + 1)) (c := P j) (d := P (j + 1)) hk (by omega)
          rw [if_neg (show ¬ midP P j k < midP P i k from Int.not_lt.mpr this), if_neg (by omega)]
theorem Poly.node (h : Poly P n) {i o : Nat} (hi : i < n) (ho : o < n) {Y ki ko xl xr : Int}
    (hin : (ki = Y - 1 ∧ sgP P i ki = 1) ∨ (ki = Y ∧ sgP P i ki = -1)) (hout : (ko = Y ∧ sgP P o ko = 1) ∨ (ko = Y - 1 ∧ sgP P o ko = -1))
    (xi : xl ≤ xeP P i Y ∧ xeP P i Y ≤ xr) (xo : xl ≤ xeP P o Y ∧ xeP P o Y ≤ xr)
    (other : ∀ j k, j < n → (k = Y - 1 ∨ k = Y) → j ≠ i → j ≠ o → sgP P j k ≠ 0 → xeP P j Y < xl ∨ xr < xeP P j Y)
    (own : i = o ∨ (∀ k, (k = Y - 1 ∨ k = Y) → (sgP P i k ≠ 0 → k = ki) ∧ (sgP P o k ≠ 0 → k = ko))) (one : i = o → ki ≠ ko)
    (fl : ∀ j, j < n → (P (j + 1)).y = (P j).y → (P j).y = Y → ¬ (((P j).x < xl ∧ xl ≤ (P (j + 1)).x) ∨ ((P (j + 1)).x < xl ∧ xl ≤ (P j).x))) :
    leftOf P n i ki = leftOf P n o ko := by
  have ni : sgP P i ki ≠ 0 := by omega
  have no : sgP P o ko ≠ 0 := by omega
  have w1 := h.node_west hi ho (Y := Y) (k := ki) (xl := xl) (xr := xr) (by omega) ni xi xo fun j hj a b c => other j ki hj (by omega) a b c
  have w2 := h.node_west ho hi (Y := Y) (k := ko) (xl := xl) (xr := xr) (by omega) no xo xi fun j hj a b c => other j ko hj (by omega) b a c
  have lv := h.level fl
  unfold leftOf
  rw [w1, w2]
  by_cases e : i = o
  · subst e
    rw [if_neg (Int.lt_irrefl _), if_neg (Int.lt_irrefl _)]
    have := one rfl
    rcases hin with ⟨rfl, q1⟩ | ⟨rfl, q1⟩ <;> rcases hout with ⟨rfl, q2⟩ | ⟨rfl, q2⟩
    · rw [if_pos q1, if_pos q2]; omega
    · exact absurd rfl this
    · exact absurd rfl this
    · rw [if_neg (by omega), if_neg (by omega)]; omega
  · have ow : ∀ k, (k = Y - 1 ∨ k = Y) → (sgP P i k ≠ 0 → k = ki) ∧ (sgP P o k ≠ 0 → k = ko) := by
      rcases own with q | q
      · exact absurd q e
      · exact q
    by_cases c : ki = ko
    · subst c
      have ap := h.halves hi ho e ni no
      have ap : midP P i ki ≠ midP P o ki := ap
      rcases hin with ⟨rfl, q1⟩ | ⟨rfl, q1⟩
      · have q2 : sgP P o (Y - 1) = -1 := by omega
        rw [if_pos q1, if_neg (by omega : ¬ sgP P o (Y - 1) = 1), q1, q2]
        by_cases d : midP P o (Y - 1) < midP P i (Y - 1)
        · rw [if_pos d, if_neg (by omega)]; omega
        · rw [if_neg d, if_pos (by omega)]; omega
      · have q2 : sgP P o ki = 1 := by omega
        rw [if_neg (by omega : ¬ sgP P i ki = 1), if_pos q2, q1, q2]
        by_cases d : midP P o ki < midP P i ki
        · rw [if_pos d, if_neg (by omega)]; omega
        · rw [if_neg d, if_pos (by omega)]; omega
    · have z1 : sgP P o ki = 0 := Classical.byContradiction fun q => c ((ow ki (by omega)).2 q)
      have z2 : sgP P i ko = 0 := Classical.byContradiction fun q => c ((ow ko (by omega)).1 q).symm
      rw [z1, z2]
      simp only [ite_self]
      rcases hin with ⟨rfl, q1⟩ | ⟨rfl, q1⟩ <;> rcases hout with ⟨rfl, q2⟩ | ⟨rfl, q2⟩
      · rw [if_pos q1, if_pos q2]; omega
      · exact absurd rfl c
      · exact absurd rfl c
      · rw [if_neg (by omega), if_neg (by omega)]; omega
end
end Wm
set_option Elab.async false
namespace Wm
open Eh
def kf (a b : Corner) : Int := if a.y < b.y then a.y else a.y - 1
def kl (a b : Corner) : Int := if a.y < b.y then b.y - 1 else b.y
theorem sg_up {a b : Corner} {k : Int} (h : a.y ≤ k ∧ k < b.y) : sg a b k = 1 := if_pos h
theorem sg_down {a b : Corner} {k : Int} (h : b.y ≤ k ∧ k < a.y) : sg a b k = -1 := by
  unfold sg
  rw [if_neg (by omega), if_pos h]
theorem in_ok {a b : Corner} (h : b.y ≠ a.y) : (kl a b = b.y - 1 ∧ sg a b (kl a b) = 1) ∨ (kl a b = b.y ∧ sg a b (kl a b) = -1) := by
  unfold kl
  by_cases c : a.y < b.y
  · rw [if_pos c]
    exact .inl ⟨rfl, sg_up (by omega)⟩
  · rw [if_neg c]
    exact .inr ⟨rfl, sg_down (by omega)⟩
theorem out_ok {a b : Corner} (h : b.y ≠ a.y) : (kf a b = a.y ∧ sg a b (kf a b) = 1) ∨ (kf a b = a.y - 1 ∧ sg a b (kf a b) = -1) := by
  unfold kf
  by_cases c : a.y < b.y
  · rw [if_pos c]
    exact .inl ⟨rfl, sg_up (by omega)⟩
  · rw [if_neg c]
    exact .inr ⟨rfl, sg_down (by omega)⟩
theorem in_only {a b : Corner} {k : Int} (hk : k = b.y - 1 ∨ k = b.y) (h : sg a b k ≠ 0) : k = kl a b := by
  have := sg_ne h
  unfold kl
  split <;> omega
theorem out_only {a b : Corner} {k : Int} (hk : k = a.y - 1 ∨ k = a.y) (h : sg a b k ≠ 0) : k = kf a b := by
  have := sg_ne h
  unfold kf
  split <;> omega
theorem leg_on {a b : Corner} (d : dirC a b = true) {k Y : Int} (hk : k = Y - 1 ∨ k = Y) (h : sg a b k ≠ 0) : On a b (xe a b Y) Y := by
  have := sg_ne h
  exact xe_on d (by omega) (by omega)
section
variable {P : Nat → Corner} {n : Nat}
theorem Poly.flat_next (h : Poly P n) {i : Nat} (e : (P (i + 1)).y = (P i).y) : (P (i + 2)).y ≠ (P (i + 1)).y := by
  intro z
  have := h.bend i
  unfold alongC at this
  have := beq_eq_false_iff_ne.mp this
  apply this
  have t1 : (P (i + 1)).y - (P i).y = 0 := by omega
  have t2 : (P (i + 2)).y - (P (i + 1)).y = 0 := by omega
  rw [t1, t2, Int.mul_zero, Int.zero_mul]
  rfl
theorem mod_inj {n i j : Nat} (hi : i < n) (hj : j < n) (e : (i + 1) % n = (j + 1) % n) : i = j := by
  by_cases c : i + 1 = n
  · by_cases d : j + 1 = n
    · omega
    · rw [c, Nat.mod_self, Nat.mod_eq_of_lt (by omega)] at e
      omega
  · by_cases d : j + 1 = n
    · rw [d, Nat.mod_self, Nat.mod_eq_of_lt (by omega)] at e
      omega
    · rw [Nat.mod_eq_of_lt (by omega), Nat.mod_eq_of_lt (by omega)] at e
      omega
theorem next_ne {n i : Nat} (h3 : 3 ≤ n) (hi : i < n) : (i + 1) % n ≠ i := by
  by_cases c : i + 1 = n
  · rw [c, Nat.mod_self]
    omega
  · rw [Nat.mod_eq_of_lt (by omega)]
    omega
theorem next2_ne {n i : Nat} (h3 : 3 ≤ n) (hi : i < n) : (i + 2) % n ≠ i := by
  by_cases c : i + 2 < n
  · rw [Nat.mod_eq_of_lt c]
    omega
  · rw [Nat.mod_eq_sub_mod (by omega), Nat.mod_eq_of_lt (by omega)]
    omega
theorem Poly.along (h : Poly P n) {i : Nat} (hi : i < n) {Y : Int} (hY : ((P i).y < Y ∧ Y < (P (i + 1)).y) ∨ ((P (i + 1)).y < Y ∧ Y < (P i).y)) : leftOf P n i (Y - 1) = leftOf P n i Y := by
  have no : ∀ j, j < n → j ≠ i → ¬ On (P j) (P (j + 1)) (xeP P i Y) Y := by
    intro j hj hne o2
    have o1 := xe_on (h.dir i) (Y := Y) (by omega) (by omega)
    rcases h.two_lines hi hj (fun e => hne e.symm) o1 o2 with ⟨_, _, e⟩ | ⟨c, _, e⟩
    · omega
    · have : P i = P (j + 1) := by rw [← c]; exact h.mod _
      rw [← this] at e
      omega
  have key : ∀ ki ko, ((ki = Y - 1 ∧ sgP P i ki = 1) ∨ (ki = Y ∧ sgP P i ki = -1)) → ((ko = Y ∧ sgP P i ko = 1) ∨ (ko = Y - 1 ∧ sgP P i ko = -1)) → ki ≠ ko → leftOf P n i ki = leftOf P n i ko := by
    intro ki ko a b c
    refine h.node hi hi (Y := Y) (xl := xeP P i Y) (xr := xeP P i Y) a b ⟨Int.le_refl _, Int.le_refl _⟩ ⟨Int.le_refl _, Int.le_refl _⟩ ?_ (.inl rfl) (fun _ => c) ?_
    · intro j k hj hk hne _ hs
      have o2 := leg_on (h.dir j) hk hs
      rcases Int.lt_trichotomy (xeP P j Y) (xeP P i Y) with q | q | q
      · exact .inl q
      · have q : xe (P j) (P (j + 1)) Y = xeP P i Y := q
        rw [q] at o2
        exact absurd o2 (no j hj hne)
      · exact .inr q
    · intro j hj e1 e2 st
      have hne : j ≠ i := fun e => by
        subst e
        omega
      have o2 := flat_on (h.dir j) (X := xeP P i Y) e1 (by omega)
      rw [e2] at o2
      exact no j hj hne o2
  rcases hY with q | q
  · exact key (Y - 1) Y (.inl ⟨rfl, sg_up (by omega)⟩) (.inl ⟨rfl, sg_up (by omega)⟩) (by omega)
  · exact (key Y (Y - 1) (.inr ⟨rfl, sg_down (by omega)⟩) (.inr ⟨rfl, sg_down (by omega)⟩) (by omega)).symm
theorem Poly.whole (h : Poly P n) {i : Nat} (hi : i < n) (k : Int) : ∀ m : Nat, sgP P i k ≠ 0 → sgP P i (k + m) ≠ 0 → leftOf P n i k = leftOf P n i (k + m)
  | 0, _, _ => by simp
  | m + 1, h1, h2 => by
    have g1 := sg_ne h1
    have g2 := sg_ne h2
    have h3 : sgP P i (k + m) ≠ 0 := by
      show sg (P i) (P (i + 1)) (k + m) ≠ 0
      rcases g1 with ⟨a, b, _⟩ | ⟨a, b, _⟩
      · rw [sg_up (a := P i) (b := P (i + 1)) (by omega)]
        decide
      · rw [sg_down (a := P i) (b := P (i + 1)) (by omega)]
        decide
    rw [h.whole hi k m h1 h3]
    have := h.along hi (Y := k + m + 1) (by omega)
    have e1 : k + (m : Int) + 1 - 1 = k + m := by omega
    have e2 : k + (m : Int) + 1 = k + ((m + 1 : Nat) : Int) := by omega
    rw [e1, e2] at this
    exact this
theorem Poly.legs (h : Poly P n) {i : Nat} (hi : i < n) {k k' : Int} (h1 : sgP P i k ≠ 0) (h2 : sgP P i k' ≠ 0) : leftOf P n i k = leftOf P n i k' := by
  rcases Int.le_total k k' with q | q
  · have e : k' = k + ((k' - k).toNat : Int) := by omega
    rw [e]
    exact h.whole hi k _ h1 (e ▸ h2)
  · have e : k = k' + ((k - k').toNat : Int) := by omega
    rw [e]
    exact (h.whole hi k' _ h2 (e ▸ h1)).symm
theorem Poly.corner (h : Poly P n) {i : Nat} (hi : i < n) (n1 : (P (i + 1)).y ≠ (P i).y) (n2 : (P (i + 2)).y ≠ (P (i + 1)).y) : leftOf P n i (kl (P i) (P (i + 1))) = leftOf P n ((i + 1) % n) (kf (P (i + 1)) (P (i + 2))) := by
  have ho : (i + 1) % n < n := Nat.mod_lt _ (by have := h.n3; omega)
  have p1 : P ((i + 1) % n) = P (i + 1) := h.mod _
  have p2 : P ((i + 1) % n + 1) = P (i + 2) := h.mod1 _
  have dir2 := h.dir (i + 1)
  have no : ∀ j, j < n → j ≠ i → j ≠ (i + 1) % n → ¬ On (P j) (P (j + 1)) (P (i + 1)).x (P (i + 1)).y := by
    intro j hj hne hno o2
    rcases h.two_lines hi hj (fun e => hne e.symm) (end_on (h.dir i)) o2 with ⟨c, _⟩ | ⟨c, _, e⟩
    · exact hno c.symm
    · have : P i = P (j + 1) := by rw [← c]; exact h.mod _
      rw [← this] at e
      exact n1 e
  have x1 : xeP P i (P (i + 1)).y = (P (i + 1)).x := xe_end (h.dir i) n1
  have x2 : xeP P ((i + 1) % n) (P (i + 1)).y = (P (i + 1)).x := by
    show xe (P ((i + 1) % n)) (P ((i + 1) % n + 1)) (P (i + 1)).y = _
    rw [p1, p2]
    exact xe_start _ _
  have s2 : ∀ k, sgP P ((i + 1) % n) k = sg (P (i + 1)) (P (i + 2)) k := fun k => by
    show sg (P ((i + 1) % n)) (P ((i + 1) % n + 1)) k = _
    rw [p1, p2]
  refine h.node hi ho (Y := (P (i + 1)).y) (xl := (P (i + 1)).x) (xr := (P (i + 1)).x) (in_ok n1) (by rw [s2]; exact out_ok n2) (by rw [x1]; exact ⟨Int.le_refl _, Int.le_refl _⟩) (by rw [x2]; exact ⟨Int.le_refl _, Int.le_refl _⟩) ?_ (.inr fun k hk => ⟨fun q => in_only hk q, fun q => out_only hk (by rw [← s2]; exact q)⟩) (fun e => absurd e.symm (next_ne h.n3 hi)) ?_
  · intro j k hj hk hne hno hs
    have o2 := leg_on (h.dir j) hk hs
    rcases Int.lt_trichotomy (xeP P j (P (i + 1)).y) (P (i + 1)).x with q | q | q
    · exact .inl q
    · have q : xe (P j) (P (j + 1)) (P (i + 1)).y = (P (i + 1)).x := q
      rw [q] at o2
      exact absurd o2 (no j hj hne hno)
    · exact .inr q
  · intro j hj e1 e2 st
    have hne : j ≠ i := fun e => by
      subst e
      exact n1 e1
    have hno : j ≠ (i + 1) % n := fun e => by
      rw [e, p1, p2] at e1
      exact n2 e1
    have o2 := flat_on (h.dir j) (X := (P (i + 1)).x) e1 (by omega)
    rw [e2] at o2
    exact no j hj hne hno o2
theorem Poly.flat (h : Poly P n) {i : Nat} (hi : i < n) (n1 : (P (i + 1)).y ≠ (P i).y) (fl : (P (i + 2)).y = (P (i + 1)).y) : leftOf P n i (kl (P i) (P (i + 1))) = leftOf P n ((i + 2) % n) (kf (P (i + 2)) (P (i + 3))) := by
  have n3 := h.n3
  have hh : (i + 1) % n < n := Nat.mod_lt _ (by omega)
  have ho : (i + 2) % n < n := Nat.mod_lt _ (by omega)
  have n2 : (P (i + 3)).y ≠ (P (i + 2)).y := h.flat_next (i := i + 1) fl
  have p1 : P ((i + 1) % n) = P (i + 1) := h.mod _
  have p2 : P ((i + 1) % n + 1) = P (i + 2) := h.mod1 _
  have p3 : P ((i + 2) % n) = P (i + 2) := h.mod _
  have p4 : P ((i + 2) % n + 1) = P (i + 3) := h.mod1 _
  have hon : ∀ X, min (P (i + 1)).x (P (i + 2)).x ≤ X → X ≤ max (P (i + 1)).x (P (i + 2)).x → On (P ((i + 1) % n)) (P ((i + 1) % n + 1)) X (P (i + 1)).y := fun X a b => by
    rw [p1, p2]
    exact flat_on (h.dir (i + 1)) fl (show ((P (i + 1)).x ≤ X ∧ X ≤ (P (i + 2)).x) ∨ ((P (i + 2)).x ≤ X ∧ X ≤ (P (i + 1)).x) by omega)
  have no : ∀ j X, j < n → j ≠ i → j ≠ (i + 1) % n → j ≠ (i + 2) % n → min (P (i + 1)).x (P (i + 2)).x ≤ X → X ≤ max (P (i + 1)).x (P (i + 2)).x → ¬ On (P j) (P (j + 1)) X (P (i + 1)).y := by
    intro j X hj hne hnh hno a b o2
    rcases h.two_lines hh hj (fun e => hnh e.symm) (hon X a b) o2 with ⟨c, _⟩ | ⟨c, _⟩
    · rw [Nat.mod_add_mod] at c
      exact hno c.symm
    · exact hne (mod_inj hj hi c)
  have x1 : xeP P i (P (i + 1)).y = (P (i + 1)).x := xe_end (h.dir i) n1
  have x2 : xeP P ((i + 2) % n) (P (i + 1)).y = (P (i + 2)).x := by
    show xe (P ((i + 2) % n)) (P ((i + 2) % n + 1)) (P (i + 1)).y = _
    rw [p3, p4, ← fl]
    exact xe_start _ _
  have s2 : ∀ k, sgP P ((i + 2) % n) k = sg (P (i + 2)) (P (i + 3)) k := fun k => by
    show sg (P ((i + 2) % n)) (P ((i + 2) % n + 1)) k = _
    rw [p3, p4]
  refine h.node hi ho (Y := (P (i + 1)).y) (xl := min (P (i + 1)).x (P (i + 2)).x) (xr := max (P (i + 1)).x (P (i + 2)).x) (in_ok n1) (by rw [s2, ← fl]; exact out_ok n2) (by rw [x1]; omega) (by rw [x2]; omega) ?_ (.inr fun k hk => ⟨fun q => in_only hk q, fun q => out_only (by omega) (by rw [← s2]; exact q)⟩) (fun e => absurd e.symm (next2_ne n3 hi)) ?_
  · intro j k hj hk hne hno hs
    have hnh : j ≠ (i + 1) % n := fun e => by
      have hs : sg (P j) (P (j + 1)) k ≠ 0 := hs
      rw [e, p1, p2] at hs
      have := sg_ne hs
      omega
    have o2 := leg_on (h.dir j) hk hs
    by_cases q : xe (P j) (P (j + 1)) (P (i + 1)).y < min (P (i + 1)).x (P (i + 2)).x
    · exact .inl q
    · by_cases q2 : max (P (i + 1)).x (P (i + 2)).x < xe (P j) (P (j + 1)) (P (i + 1)).y
      · exact .inr q2
      · exact absurd o2 (no j _ hj hne hnh hno (by omega) (by omega))
  · intro j hj e1 e2 st
    have hne : j ≠ i := fun e => by
      subst e
      exact n1 e1
    have hno : j ≠ (i + 2) % n := fun e => by
      rw [e, p3, p4] at e1
      exact n2 e1
    by_cases c : j = (i + 1) % n
    · rw [c, p1, p2] at st
      omega
    · have o2 := flat_on (h.dir j) (X := min (P (i + 1)).x (P (i + 2)).x) e1 (by omega)
      rw [e2] at o2
      exact no j _ hj hne c hno (Int.le_refl _) (by omega) o2
end
end Wm
set_option Elab.async false
namespace Wm
open Eh
section
variable {P : Nat → Corner} {n : Nat}
theorem leftOf_mod (h : Poly P n) (i : Nat) (k : Int) : leftOf P n (i % n) k = leftOf P n i k := by
  have e1 : sgP P (i % n) k = sgP P i k := by
    show sg (P (i % n)) (P (i % n + 1)) k = _
    rw [h.mod, h.mod1]
  have e2 : midP P (i % n) k = midP P i k := by
    show mid (P (i % n)) (P (i % n + 1)) k = _
    rw [h.mod, h.mod1]
  unfold leftOf
  rw [e1, e2]
def lf (P : Nat → Corner) (n i : Nat) : Int := leftOf P n i (kf (P i) (P (i + 1)))
theorem Poly.legs' (h : Poly P n) (i : Nat) {k k' : Int} (h1 : sgP P i k ≠ 0) (h2 : sgP P i k' ≠ 0) : leftOf P n i k = leftOf P n i k' := by
  rw [← leftOf_mod h i k, ← leftOf_mod h i k']
  refine h.legs (Nat.mod_lt _ (by have := h.n3; omega)) ?_ ?_
  · show sg (P (i % n)) (P (i % n + 1)) k ≠ 0
    rw [h.mod, h.mod1]
    exact h1
  · show sg (P (i % n)) (P (i % n + 1)) k' ≠ 0
    rw [h.mod, h.mod1]
    exact h2
theorem Poly.last (h : Poly P n) {i : Nat} (n1 : (P (i + 1)).y ≠ (P i).y) : lf P n i = leftOf P n i (kl (P i) (P (i + 1))) := by
  refine h.legs' i ?_ ?_
  · show sg (P i) (P (i + 1)) _ ≠ 0
    have := out_ok n1
    omega
  · show sg (P i) (P (i + 1)) _ ≠ 0
    have := in_ok n1
    omega
theorem mod2 (h : Poly P n) (i j : Nat) : P (i % n + j) = P (i + j) := by
  rw [← h.mod (i % n + j), ← h.mod (i + j), Nat.mod_add_mod]
theorem Poly.step1 (h : Poly P n) {i : Nat} (n1 : (P (i + 1)).y ≠ (P i).y) (n2 : (P (i + 2)).y ≠ (P (i + 1)).y) : lf P n i = lf P n (i + 1) := by
  have hi : i % n < n := Nat.mod_lt _ (by have := h.n3; omega)
  have q := h.corner hi (by rw [mod2 h, h.mod]; exact n1) (by rw [mod2 h, mod2 h]; exact n2)
  rw [mod2 h, mod2 h, h.mod, Nat.mod_add_mod, leftOf_mod h, leftOf_mod h] at q
  rw [h.last n1]
  exact q
theorem Poly.step2 (h : Poly P n) {i : Nat} (n1 : (P (i + 1)).y ≠ (P i).y) (n2 : (P (i + 2)).y = (P (i + 1)).y) : lf P n i = lf P n (i + 2) := by
  have hi : i % n < n := Nat.mod_lt _ (by have := h.n3; omega)
  have q := h.flat hi (by rw [mod2 h, h.mod]; exact n1) (by rw [mod2 h, mod2 h]; exact n2)
  rw [mod2 h, mod2 h, mod2 h, h.mod, leftOf_mod h, Nat.mod_add_mod, leftOf_mod h] at q
  rw [h.last n1]
  exact q
def lfE (P : Nat → Corner) (n i : Nat) : Int := if (P (i + 1)).y = (P i).y then lf P n (i + 1) else lf P n i
theorem Poly.stepE (h : Poly P n) (i : Nat) : lfE P n i = lfE P n (i + 1) := by
  unfold lfE
  by_cases c : (P (i + 1)).y = (P i).y
  · rw [if_pos c, if_neg (h.flat_next c)]
  · rw [if_neg c]
    by_cases d : (P (i + 1 + 1)).y = (P (i + 1)).y
    · rw [if_pos d]
      exact h.step2 c d
    · rw [if_neg d]
      exact h.step1 c d
theorem Poly.all (h : Poly P n) : ∀ i, lfE P n i = lfE P n 0
  | 0 => rfl
  | i + 1 => by rw [← h.stepE i, h.all i]
theorem Poly.leg (h : Poly P n) {i : Nat} {k : Int} (hs : sgP P i k ≠ 0) : leftOf P n i k = lfE P n 0 := by
  have g := sg_ne hs
  have n1 : (P (i + 1)).y ≠ (P i).y := by omega
  rw [← h.all i]
  unfold lfE
  rw [if_neg n1]
  refine h.legs' i hs ?_
  show sg (P i) (P (i + 1)) _ ≠ 0
  have := out_ok n1
  omega
theorem mid_in {a b : Corner} (d : dirC a b = true) (ha : 0 ≤ a.x ∧ a.x ≤ 4095) (hb : 0 ≤ b.x ∧ b.x ≤ 4095) {k : Int} (hs : sg a b k ≠ 0) : 0 ≤ mid a b k ∧ mid a b k < 10000 := by
  have g := sg_ne hs
  unfold mid xe
  rcases forms d with ⟨e, _⟩ | ⟨_, s, e, _⟩ | ⟨_, s, e, _⟩ | ⟨_, s, e, _⟩
  · omega
  all_goals rw [s]; omega
theorem Poly.lev (h : Poly P n) (hx : ∀ i, 0 ≤ (P i).x ∧ (P i).x ≤ 4095) (k : Int) : Lev (fun j => sgP P j k) (fun j => midP P j k) n (lfE P n 0) where
  sg := fun j _ => by
    by_cases z : sgP P j k = 0
    · exact .inr (.inl z)
    · rcases sg_ne z with ⟨_, _, e⟩ | ⟨_, _, e⟩
      · exact .inl e
      · exact .inr (.inr e)
  pos := fun j _ hs => (mid_in (h.dir j) (hx j) (hx (j + 1)) hs).1
  apart := fun i j hi hj hne h1 h2 => h.halves hi hj hne h1 h2
  up := fun j _ e => by
    have e : sgP P j k = 1 := e
    have := h.leg (i := j) (k := k) (by omega)
    unfold leftOf at this
    rw [if_pos e] at this
    show westP P n k (midP P j k) = _
    omega
  down := fun j _ e => by
    have e : sgP P j k = -1 := e
    have := h.leg (i := j) (k := k) (by omega)
    unfold leftOf at this
    rw [if_neg (by omega)] at this
    show westP P n k (midP P j k) = _
    omega
theorem sg_tele (a b : Corner) (k : Int) : sg a b k = (if k < b.y then 1 else 0) - (if k < a.y then 1 else 0) := by
  unfold sg
  by_cases c : a.y ≤ k ∧ k < b.y
  · rw [if_pos c, if_pos c.2, if_neg (by omega)]
    rfl
  · rw [if_neg c]
    by_cases d : b.y ≤ k ∧ k < a.y
    · rw [if_pos d, if_neg (by omega), if_pos d.2]
      rfl
    · rw [if_neg d]
      split <;> split <;> omega
theorem Poly.tot (h : Poly P n) (k : Int) : sm (fun j => sgP P j k) n = 0 := by
  have t := sm_tele (fun i => if k < (P i).y then (1 : Int) else 0) n
  have c : sm (fun j => sgP P j k) n = _ := (sm_congr (g := fun j => (if k < (P (j + 1)).y then (1 : Int) else 0) - (if k < (P j).y then 1 else 0)) fun j _ => sg_tele (P j) (P (j + 1)) k).trans t
  rw [c]
  have z : P n = P 0 := by
    have := h.per 0
    rw [Nat.zero_add] at this
    exact this
  show (if k < (P n).y then (1 : Int) else 0) - (if k < (P 0).y then (1 : Int) else 0) = 0
  rw [z]
  omega
theorem climb (x0 s : Int) (y0 y1 : Nat) (h : y0 ≤ y1) : ∀ m : Nat, sm (fun k => if y0 ≤ k ∧ k < y1 then 2 * (x0 + s * ((k : Int) - y0)) + s else 0) m = if m ≤ y0 then 0 else if m ≤ y1 then ((m : Int) - y0) * (2 * x0 + s * ((m : Int) - y0)) else ((y1 : Int) - y0) * (2 * x0 + s * ((y1 : Int) - y0))
  | 0 => by rw [if_pos (Nat.zero_le _)]; rfl
  | m + 1 => by
    show sm _ m + (if y0 ≤ m ∧ m < y1 then 2 * (x0 + s * ((m : Int) - y0)) + s else 0) = _
    rw [climb x0 s y0 y1 h m]
    by_cases c1 : m + 1 ≤ y0
    · rw [if_pos (show m ≤ y0 by omega), if_neg (show ¬ (y0 ≤ m ∧ m < y1) by omega), if_pos c1]
      rfl
    · by_cases c2 : m + 1 ≤ y1
      · rw [if_neg c1, if_pos c2, if_pos (show y0 ≤ m ∧ m < y1 from ⟨by omega, by omega⟩)]
        have e : (((m + 1 : Nat) : Int) - y0) = ((m : Int) - y0) + 1 := by omega
        rw [e]
        by_cases c3 : m ≤ y0
        · have z : (m : Int) - y0 = 0 := by omega
          rw [if_pos c3, z]
          simp
        · rw [if_neg c3, if_pos (by omega)]
          generalize (m : Int) - y0 = d
          grind
      · rw [if_neg c1, if_neg c2, if_neg (by omega : ¬ (y0 ≤ m ∧ m < y1))]
        by_cases c3 : m ≤ y0
        · have : m = y0 ∧ y1 = y0 := by omega
          rw [if_pos c3]
          have z : (y1 : Int) - y0 = 0 := by omega
          rw [z]
          simp
        · rw [if_neg c3]
          by_cases c4 : m ≤ y1
          · have : (m : Int) = y1 := by omega
            rw [if_pos c4, this]
            omega
          · rw [if_neg c4]
            omega
theorem edge_area {a b : Corner} (d : dirC a b = true) (ha : 0 ≤ a.y ∧ a.y ≤ 4095) (hb : 0 ≤ b.y ∧ b.y ≤ 4095) : sm (fun k => sg a b k * mid a b k) 4096 = (a.x + b.x) * (b.y - a.y) := by
  by_cases e : b.y = a.y
  · rw [sm_congr (g := fun _ => 0), sm_zero, e, Int.sub_self, Int.mul_zero]
    intro k _
    have : sg a b k = 0 := Classical.byContradiction fun q => by
      have := sg_ne q
      omega
    rw [this, Int.zero_mul]
  · have bx : b.x = a.x + slo a b * (b.y - a.y) := by
      have := xe_end d e
      unfold xe at this
      omega
    obtain ⟨y0, hy0⟩ := Int.eq_ofNat_of_zero_le ha.1
    obtain ⟨y1, hy1⟩ := Int.eq_ofNat_of_zero_le hb.1
    by_cases c : a.y < b.y
    · rw [sm_congr (g := fun k => if y0 ≤ k ∧ k < y1 then 2 * (a.x + slo a b * ((k : Int) - y0)) + slo a b else 0), climb a.x (slo a b) y0 y1 (by omega), if_neg (by omega)]
      · have e2 : (if 4096 ≤ y1 then (((4096 : Nat) : Int) - y0) * (2 * a.x + slo a b * (((4096 : Nat) : Int) - y0)) else ((y1 : Int) - y0) * (2 * a.x + slo a b * ((y1 : Int) - y0))) = ((y1 : Int) - y0) * (2 * a.x + slo a b * ((y1 : Int) - y0)) := if_neg (by omega)
        rw [e2, bx, hy0, hy1, Int.mul_comm]
        congr 1
        omega
      · intro k _
        unfold mid xe
        by_cases q : y0 ≤ k ∧ k < y1
        · rw [if_pos q, sg_up (by omega), Int.one_mul, hy0]
        · rw [if_neg q]
          have : sg a b k = 0 := Classical.byContradiction fun z => by
            have := sg_ne z
            omega
          rw [this, Int.zero_mul]
    · have e3 : sm (fun k => sg a b k * mid a b k) 4096 = - sm (fun k => if y1 ≤ k ∧ k < y0 then 2 * (b.x + slo a b * ((k : Int) - y1)) + slo a b else 0) 4096 := by
        rw [← sm_neg]
        refine sm_congr fun k _ => ?_
        unfold mid xe
        by_cases q : y1 ≤ k ∧ k < y0
        · rw [if_pos q, sg_down (by omega), bx, hy0, hy1]
          generalize slo a b = s
          have : (k : Int) - y0 = ((y1 : Int) - y0) + ((k : Int) - y1) := by omega
          show -1 * (2 * (a.x + s * ((k : Int) - y0)) + s) = -(2 * (a.x + s * ((y1 : Int) - y0) + s * ((k : Int) - y1)) + s)
          rw [this, Int.mul_add]
          grind
        · rw [if_neg q]
          have : sg a b k = 0 := Classical.byContradiction fun z => by
            have := sg_ne z
            omega
          rw [this, Int.zero_mul]
          rfl
      rw [e3, climb b.x (slo a b) y1 y0 (by omega), if_neg (by omega)]
      have e2 : (if 4096 ≤ y0 then (((4096 : Nat) : Int) - y1) * (2 * b.x + slo a b * (((4096 : Nat) : Int) - y1)) else ((y0 : Int) - y1) * (2 * b.x + slo a b * ((y0 : Int) - y1))) = ((y0 : Int) - y1) * (2 * b.x + slo a b * ((y0 : Int) - y1)) := if_neg (by omega)
      rw [e2, bx, hy0, hy1]
      generalize slo a b = s
      generalize a.x = x
      show -(((y0 : Int) - y1) * (2 * (x + s * ((y1 : Int) - y0)) + s * ((y0 : Int) - y1))) = (x + (x + s * ((y1 : Int) - y0))) * ((y1 : Int) - y0)
      have t : (y0 : Int) - y1 = -((y1 : Int) - y0) := by omega
      rw [t]
      generalize (y1 : Int) - y0 = dd
      grind
end
end Wm
set_option Elab.async false
namespace Wm
open Eh
theorem both_signs {s : Nat → Int} {n j : Nat} (hs : ∀ i, i < n → s i = 1 ∨ s i = 0 ∨ s i = -1) (tot : sm s n = 0) (hj : j < n) (h : s j ≠ 0) : (∃ i, i < n ∧ s i = 1) ∧ ∃ i, i < n ∧ s i = -1 := by
  constructor
  · refine Classical.byContradiction fun q => ?_
    have le : ∀ i, i < n → 0 ≤ - s i := fun i hi => by
      have := hs i hi
      have : s i ≠ 1 := fun e => q ⟨i, hi, e⟩
      omega
    have := sm_pos (f := fun i => - s i) (n := n) (o := j) le hj (by have := le j hj; show 0 < - s j; omega)
    rw [sm_neg] at this
    omega
  · refine Classical.byContradiction fun q => ?_
    have le : ∀ i, i < n → 0 ≤ s i := fun i hi => by
      have := hs i hi
      have : s i ≠ -1 := fun e => q ⟨i, hi, e⟩
      omega
    have := sm_pos (f := s) (n := n) (o := j) le hj (by have := le j hj; omega)
    omega
section
variable {P : Nat → Corner} {n : Nat}
theorem Poly.area_ne (h : Poly P n) (hx : ∀ i, 0 ≤ (P i).x ∧ (P i).x ≤ 4095) (hy : ∀ i, 0 ≤ (P i).y ∧ (P i).y ≤ 4095) : sm (fun i => (P i).x * (P (i + 1)).y - (P (i + 1)).x * (P i).y) n ≠ 0 := by
  have z : P n = P 0 := by
    have := h.per 0
    rw [Nat.zero_add] at this
    exact this
  have e1 : sm (fun i => (P i).x * (P (i + 1)).y - (P (i + 1)).x * (P i).y) n = sm (fun j => sm (fun k => sgP P j k * midP P j k) 4096) n := by
    have t := sm_tele (fun i => (P i).x * (P i).y) n
    have a := sm_add (fun i => (P i).x * (P (i + 1)).y - (P (i + 1)).x * (P i).y) (fun i => (P (i + 1)).x * (P (i + 1)).y - (P i).x * (P i).y) n
    rw [t, z, Int.sub_self, Int.add_zero] at a
    rw [← a]
    refine sm_congr fun j _ => ?_
    have := edge_area (h.dir j) (hy j) (hy (j + 1))
    show _ = sm (fun k => sg (P j) (P (j + 1)) k * mid (P j) (P (j + 1)) k) 4096
    rw [this]
    generalize (P j).x = a
    generalize (P j).y = b
    generalize (P (j + 1)).x = c
    generalize (P (j + 1)).y = d
    grind
  rw [e1, sm_swap]
  clear e1
  generalize hN : (4096 : Nat) = N
  have n3 := h.n3
  obtain ⟨i0, hi0, ne0⟩ : ∃ i, i < n ∧ (P (i + 1)).y ≠ (P i).y := by
    by_cases c : (P (0 + 1)).y = (P 0).y
    · exact ⟨1, by omega, h.flat_next c⟩
    · exact ⟨0, by omega, c⟩
  have o := out_ok ne0
  have s0 : sgP P i0 (kf (P i0) (P (i0 + 1))) ≠ 0 := by
    show sg (P i0) (P (i0 + 1)) _ ≠ 0
    omega
  have g0 := sg_ne s0
  have y0 := hy i0
  have y1 := hy (i0 + 1)
  generalize hk0 : kf (P i0) (P (i0 + 1)) = k0 at *
  have kc : ((k0.toNat : Nat) : Int) = k0 := by omega
  have L := h.lev hx
  have m0 := mid_in (h.dir i0) (hx i0) (hx (i0 + 1)) s0
  have hc : lfE P n 0 = 0 ∨ lfE P n 0 = -1 := (L k0).c01 10000 i0 hi0 s0 (by
    show midP P i0 k0 ≤ _
    have : midP P i0 k0 < 10000 := m0.2
    omega)
  have bs := both_signs (s := fun j => sgP P j k0) (fun i hi => (L k0).sg i hi) (h.tot k0) hi0 s0
  have key : ∀ k : Nat, _ := fun k : Nat => (L k).sum hc (M := 10000) (fun j hj hs => (mid_in (h.dir j) (hx j) (hx (j + 1)) hs).2) (h.tot k)
  have kk := key k0.toNat
  rw [kc] at kk
  rcases hc with c | c
  · have le : ∀ k : Nat, k < N → 0 ≤ - sm (fun j => sgP P j (k : Int) * midP P j (k : Int)) n := fun k _ => by
      have := ((key k).1 c).1
      omega
    have := sm_pos (f := fun k : Nat => - sm (fun j => sgP P j (k : Int) * midP P j (k : Int)) n) (n := N) (o := k0.toNat) le (by omega) (by
      show 0 < - sm (fun j => sgP P j ((k0.toNat : Nat) : Int) * midP P j ((k0.toNat : Nat) : Int)) n
      rw [kc]
      have := (kk.1 c).2 bs.1
      omega)
    rw [sm_neg (fun k : Nat => sm (fun j => sgP P j (k : Int) * midP P j (k : Int)) n)] at this
    omega
  · have le : ∀ k : Nat, k < N → 0 ≤ sm (fun j => sgP P j (k : Int) * midP P j (k : Int)) n := fun k _ => ((key k).2 c).1
    have := sm_pos (f := fun k : Nat => sm (fun j => sgP P j (k : Int) * midP P j (k : Int)) n) (n := N) (o := k0.toNat) le (by omega) (by
      show 0 < sm (fun j => sgP P j ((k0.toNat : Nat) : Int) * midP P j ((k0.toNat : Nat) : Int)) n
      rw [kc]
      exact (kk.2 c).2 bs.2)
    omega
end
theorem foldr_sm (f : Nat → Int) : ∀ n : Nat, ((List.range n).map f).foldr (fun (a b : Int) => a + b) 0 = sm f n := by
  have app : ∀ (l : List Int) (x : Int), (l ++ [x]).foldr (fun (a b : Int) => a + b) 0 = l.foldr (fun (a b : Int) => a + b) 0 + x := by
    intro l x
    induction l with
    | nil => show x + 0 = 0 + x; omega
    | cons y l ih =>
      show y + (l ++ [x]).foldr (fun (a b : Int) => a + b) 0 = y + l.foldr (fun (a b : Int) => a + b) 0 + x
      rw [ih]
      omega
  intro n
  induction n with
  | zero => rfl
  | succ n ih => rw [List.range_succ, List.map_append, List.map_cons, List.map_nil, app, ih] <;> rfl
theorem find_some {p : Nat → Bool} {i : Nat} : ∀ {n a : Nat}, a ≤ i → i < a + n → p i = true → (∀ j, a ≤ j → j < i → p j = false) → (List.range' a n).find? p = some i
  | 0, a, h1, h2, _, _ => by omega
  | n + 1, a, h1, h2, h3, h4 => by
    rw [List.range'_succ, List.find?_cons]
    by_cases c : a = i
    · subst c
      rw [h3]
    · rw [h4 a (Nat.le_refl _) (by omega)]
      exact find_some (by omega) (by omega) h3 fun j a1 a2 => h4 j (by omega) a2
theorem find_range {p : Nat → Bool} {i n : Nat} (h2 : i < n) (h3 : p i = true) (h4 : ∀ j, j < i → p j = false) : (List.range n).find? p = some i := by
  rw [List.range_eq_range']
  exact find_some (Nat.zero_le _) (by omega) h3 fun j _ a => h4 j a
theorem find_nothing {p : Nat → Bool} {n : Nat} (h : ∀ j, j < n → p j = false) : (List.range n).find? p = none := by
  rw [List.find?_eq_none]
  intro x hx
  rw [h x (List.mem_range.mp hx)]
  exact Bool.false_ne_true
end Wm
set_option Elab.async false
set_option maxRecDepth 100000
set_option maxHeartbeats 4000000
namespace Gn
open PySem PySem.Spec PyProof.Rows L2 Lw
open PySem.W (Codec WData)
def top (i : Nat) : Stmt := PySem.Challenge.pw_wallbands_s02_gains.main.body.getD i (.Pass ⟨0, 0, 0, 0⟩)
abbrev s_find_book_fault : Stmt := top 7
abbrev s_find_root : Stmt := top 8
abbrev s_list_parts : Stmt := top 9
abbrev s_find_gain : Stmt := top 10
abbrev s_list_corners : Stmt := top 16
abbrev s_count_walls : Stmt := top 17
abbrev s_find_stuff : Stmt := top 18
abbrev s_has_right_length : Stmt := top 19
abbrev s_is_place : Stmt := top 20
abbrev s_is_stuff : Stmt := top 21
abbrev s_has_right_head : Stmt := top 22
abbrev s_is_corner : Stmt := top 23
abbrev s_find_ends : Stmt := top 24
abbrev s_find_run : Stmt := top 25
abbrev s_runs_in_a_direction : Stmt := top 26
abbrev s_goes_straight_on : Stmt := top 27
abbrev s_find_side : Stmt := top 28
abbrev s_ranges_meet : Stmt := top 29
abbrev s_reaches_across : Stmt := top 30
abbrev s_lines_meet : Stmt := top 31
abbrev s_meets_a_later_line : Stmt := top 32
abbrev s_breaks_rule : Stmt := top 33
abbrev s_measure_twice : Stmt := top 34
abbrev s_find_room_fault : Stmt := top 35
abbrev s_refuse_room_or_book : Stmt := top 44
abbrev s_are_walls : Stmt := top 45
abbrev s_find_gain_by_walls : Stmt := top 46
abbrev s_gains : Stmt := top 47
structure Txt (mg : Str → Option Value) : Prop where
  b_abs : mg "abs" = none
  b_all : mg "all" = none
  b_enumerate : mg "enumerate" = none
  b_len : mg "len" = none
  b_max : mg "max" = none
  b_min : mg "min" = none
  b_range : mg "range" = none
  c_AIR_PLACE : ∃ t, mg "AIR_PLACE" = some (.int (32) t)
  c_AIR_STEP : ∃ t, mg "AIR_STEP" = some (.int (1024) t)
  c_BANDS : ∃ t, mg "BANDS" = some (.int (4) t)
  c_BOOK_LENGTH : ∃ t, mg "BOOK_LENGTH" = some (.int (36) t)
  c_FEWEST_CORNERS : ∃ t, mg "FEWEST_CORNERS" = some (.int (3) t)
  c_FINE : ∃ t, mg "FINE" = some (.int (0) t)
  c_GREATEST_GAIN : ∃ t, mg "GREATEST_GAIN" = some (.int (4294967296) t)
  c_GREATEST_LENGTH2 : ∃ t, mg "GREATEST_LENGTH2" = some (.int (1099511627776) t)
  c_GREATEST_PLACE : ∃ t, mg "GREATEST_PLACE" = some (.int (4095) t)
  c_GREATEST_STUFF : ∃ t, mg "GREATEST_STUFF" = some (.int (7) t)
  c_MOST_CORNERS : ∃ t, mg "MOST_CORNERS" = some (.int (64) t)
  c_MOST_TURNS : ∃ t, mg "MOST_TURNS" = some (.int (4) t)
  c_NO_BOOK : ∃ t, mg "NO_BOOK" = some (.int (-6) t)
  c_NO_ROOM : ∃ t, mg "NO_ROOM" = some (.int (-5) t)
  c_OUT_OF_RANGE : ∃ t, mg "OUT_OF_RANGE" = some (.int (-1) t)
  c_TOO_LONG : ∃ t, mg "TOO_LONG" = some (.int (-4) t)
  c_WHOLE_PART : ∃ t, mg "WHOLE_PART" = some (.int (32768) t)
abbrev Tri := Int × Int × Int
def TriAt (H : Hp) (p : Addr) (c : Tri) : Prop := H p = some (.tup [.int c.1, .int c.2.1, .int c.2.2])
def XyAt (H : Hp) (p : Addr) (c : Tri) : Prop := ∃ r : List V, H p = some (.tup (.int c.1 :: .int c.2.1 :: r))
theorem TriAt.xy {H : Hp} {p : Addr} {c : Tri} (h : TriAt H p c) : XyAt H p c := ⟨_, h⟩
def LsAt {α : Type} (R : Hp → Addr → α → Prop) (H : Hp) (a : Addr) (C : List α) : Prop := ∃ ps : List Addr, H a = some (.lst (ps.map V.ref)) ∧ ps.length = C.length ∧ ∀ (i : Nat) p c, ps[i]? = some p → C[i]? = some c → R H p c
abbrev CsAt (H : Hp) (a : Addr) (C : List Tri) : Prop := LsAt XyAt H a C
abbrev CtAt (H : Hp) (a : Addr) (C : List Tri) : Prop := LsAt TriAt H a C
def EndsAt (H : Hp) (p : Addr) (a b : Tri) : Prop := ∃ p1 p2, H p = some (.tup [.ref p1, .ref p2]) ∧ XyAt H p1 a ∧ XyAt H p2 b
theorem TriAt.same {H H' : Hp} {p : Addr} {c : Tri} (h : TriAt H p c) (s : Same H H') : TriAt H' p c := s _ _ h
theorem XyAt.same {H H' : Hp} {p : Addr} {c : Tri} (h : XyAt H p c) (s : Same H H') : XyAt H' p c := by
  obtain ⟨r, h⟩ := h
  exact ⟨r, s _ _ h⟩
theorem CtAt.cs {H : Hp} {a : Addr} {C : List Tri} (h : CtAt H a C) : CsAt H a C := by
  obtain ⟨ps, h1, h2, h3⟩ := h
  exact ⟨ps, h1, h2, fun i p c e1 e2 => (h3 i p c e1 e2).xy⟩
theorem LsAt.sameR {α : Type} {R : Hp → Addr → α → Prop} {H H' : Hp} {a : Addr} {C : List α} (h : LsAt R H a C) (s : Same H H') (hR : ∀ p c, R H p c → R H' p c) : LsAt R H' a C := by
  obtain ⟨ps, h1, h2, h3⟩ := h
  exact ⟨ps, s _ _ h1, h2, fun i p c e1 e2 => hR p c (h3 i p c e1 e2)⟩
theorem CsAt.same {H H' : Hp} {a : Addr} {C : List Tri} (h : CsAt H a C) (s : Same H H') : CsAt H' a C := LsAt.sameR h s fun _ _ q => q.same s
theorem CtAt.same {H H' : Hp} {a : Addr} {C : List Tri} (h : CtAt H a C) (s : Same H H') : CtAt H' a C := LsAt.sameR h s fun _ _ q => q.same s
theorem EndsAt.same {H H' : Hp} {p : Addr} {a b : Tri} (h : EndsAt H p a b) (s : Same H H') : EndsAt H' p a b := by
  obtain ⟨p1, p2, h1, h2, h3⟩ := h
  exact ⟨p1, p2, s _ _ h1, h2.same s, h3.same s⟩
def atC (C : List Tri) (i : Nat) : Tri := C.getD (i % C.length) (0, 0, 0)
theorem LsAt.len {R : Hp → Addr → Tri → Prop} {H : Hp} {a : Addr} {C : List Tri} (h : LsAt R H a C) : ∃ ps : List Addr, H a = some (.lst (ps.map V.ref)) ∧ (ps.map V.ref).length = C.length ∧ ∀ i : Nat, C ≠ [] → ∃ p, (ps.map V.ref)[i % C.length]? = some (.ref p) ∧ R H p (atC C i) := by
  obtain ⟨ps, h1, h2, h3⟩ := h
  refine ⟨ps, h1, by rw [List.length_map, h2], fun i hC => ?_⟩
  have hp : 0 < C.length := List.length_pos_iff.mpr hC
  have hi : i % C.length < C.length := Nat.mod_lt _ hp
  refine ⟨ps[i % C.length]'(by omega), ?_, h3 (i % C.length) _ _ (List.getElem?_eq_getElem (by omega)) ?_⟩
  · rw [List.getElem?_map, List.getElem?_eq_getElem (by omega)]
    rfl
  · unfold atC
    rw [List.getD_eq_getElem?_getD, List.getElem?_eq_getElem hi]
    rfl
theorem at0 {u v : V} {r : List V} : atI (u :: v :: r) 0 = some u := by
  unfold atI ixN
  rw [if_pos (by decide), if_pos (by simp only [List.length_cons]; omega)]
  rfl
theorem at1 {u v : V} {r : List V} : atI (u :: v :: r) 1 = some v := by
  unfold atI ixN
  rw [if_pos (by decide), if_pos (by simp only [List.length_cons]; omega)]
  rfl
theorem atI_mod {α : Type} {xs : List α} {i n : Nat} {v : α} (h : xs[i % n]? = some v) : atI xs ((i : Int) % (n : Int)) = some v := by
  rw [← Int.natCast_emod]
  exact atI_nat h
theorem atI_eq {α : Type} {xs : List α} {z : Int} {i : Nat} {v : α} (e : z = (i : Int)) (h : xs[i]? = some v) : atI xs z = some v := by
  subst e
  exact atI_nat h
def Bd (c : Tri) : Prop := c.1.natAbs ≤ 2 ^ 63 ∧ c.2.1.natAbs ≤ 2 ^ 63
theorem atC_bd {C : List Tri} (h : ∀ c ∈ C, Bd c) (i : Nat) : Bd (atC C i) := by
  unfold atC
  rw [List.getD_eq_getElem?_getD]
  cases e : C[i % C.length]? with
  | none => exact ⟨by decide, by decide⟩
  | some c => exact h c (List.mem_of_getElem? e)
theorem mul_bd {a b : Int} {m n : Nat} (ha : a.natAbs < 2 ^ m) (hb : b.natAbs < 2 ^ n) : (a * b).natAbs < 2 ^ (m + n) := by
  rw [Int.natAbs_mul, Nat.pow_add]
  exact Nat.mul_lt_mul_of_lt_of_lt ha hb
theorem sub_bd {a b : Int} {m : Nat} (ha : a.natAbs < 2 ^ m) (hb : b.natAbs < 2 ^ m) : (a - b).natAbs < 2 ^ (m + 1) := by
  rw [Nat.pow_succ]
  omega
theorem d65 {a b : Int} (ha : a.natAbs ≤ 2 ^ 63) (hb : b.natAbs ≤ 2 ^ 63) : (a - b).natAbs < 2 ^ 65 := by omega
end Gn
set_option Elab.async false
set_option maxRecDepth 100000
set_option maxHeartbeats 4000000
namespace Gn
open PySem PySem.Spec PyProof.Rows L2 Lw
open PySem.W (Codec WData)
theorem no_iff {p : Prop} (h : ¬ p) : (false = true ↔ p) := ⟨fun q => (by cases q), fun q => absurd q h⟩
section
variable {P : Program} {w : World} {K : PySem.W.Frag} {mg : Str → Option Value} {base : Heap}
def spRng (hi : Int) : Sp := fun vs H Q _ => ∃ z : Int, vs = [.int z] ∧ ∀ b H', (b = true ↔ 0 ≤ z ∧ z ≤ hi) → Same H H' → Q (.bl b) H'
theorem sc_is_place : FnScope ["number"] ["number"] (defScope s_is_place) := ⟨rfl, rfl, rfl, by decide +kernel, rfl, by decide +kernel, by decide +kernel⟩
theorem ok_is_place (F : At K mg "is_place" s_is_place ["number"]) (T : Txt mg) : Def P w K mg base "is_place" 1 ["number"] (spRng 4095) := by
  refine F.ok sc_is_place (fun vs H Q E h => ?_) (fun f cdv A outer s H vs Q E hr h => ?_)
  · obtain ⟨z, rfl, _⟩ := h
    rfl
  · obtain ⟨z, rfl, k⟩ := h
    have nd := sc_is_place.nd
    refine ⟨_, (pss_one (ps_ret (pe_chain op_le op_le pe_int (pv 0) (pe_gE (by rfl) T.c_GREATEST_PLACE)))), ?_⟩
    refine ⟨_, rfl, _, _, rfl, rfl, _, rfl, ?_⟩
    refine ite2 (fun c => ?_) (fun c => ?_)
    · refine ⟨_, _, rfl, rfl, k _ _ ?_ (Same.refl H)⟩
      simp at c
      simp [c]
    · refine k _ _ ?_ (Same.refl H)
      simp at c
      simp
      omega
theorem sc_is_stuff : FnScope ["number"] ["number"] (defScope s_is_stuff) := ⟨rfl, rfl, rfl, by decide +kernel, rfl, by decide +kernel, by decide +kernel⟩
theorem ok_is_stuff (F : At K mg "is_stuff" s_is_stuff ["number"]) (T : Txt mg) : Def P w K mg base "is_stuff" 1 ["number"] (spRng 7) := by
  refine F.ok sc_is_stuff (fun vs H Q E h => ?_) (fun f cdv A outer s H vs Q E hr h => ?_)
  · obtain ⟨z, rfl, _⟩ := h
    rfl
  · obtain ⟨z, rfl, k⟩ := h
    have nd := sc_is_stuff.nd
    refine ⟨_, (pss_one (ps_ret (pe_chain op_le op_le pe_int (pv 0) (pe_gE (by rfl) T.c_GREATEST_STUFF)))), ?_⟩
    refine ⟨_, rfl, _, _, rfl, rfl, _, rfl, ?_⟩
    refine ite2 (fun c => ?_) (fun c => ?_)
    · refine ⟨_, _, rfl, rfl, k _ _ ?_ (Same.refl H)⟩
      simp at c
      simp [c]
    · refine k _ _ ?_ (Same.refl H)
      simp at c
      simp
      omega
def spLenOk (K : PySem.W.Frag) : Sp := fun vs H Q _ => ∃ (a : Addr) (xs : List V), vs = [.ref a] ∧ SqL K H a xs ∧ ∀ b H', (b = true ↔ xs.length % 3 = 0 ∧ 3 ≤ xs.length / 3 - 1 ∧ xs.length / 3 - 1 ≤ 64) → Same H H' → Q (.bl b) H'
theorem sc_has_right_length : FnScope ["room"] ["room"] (defScope s_has_right_length) := ⟨rfl, rfl, rfl, by decide +kernel, rfl, by decide +kernel, by decide +kernel⟩
theorem ok_has_right_length (F : At K mg "has_right_length" s_has_right_length ["room"]) (T : Txt mg) : Def P w K mg base "has_right_length" 1 ["room"] (spLenOk K) := by
  refine F.ok sc_has_right_length (fun vs H Q E h => ?_) (fun f cdv A outer s H vs Q E hr h => ?_)
  · obtain ⟨a, xs, rfl, _⟩ := h
    rfl
  · obtain ⟨a, xs, rfl, hS, k⟩ := h
    have nd := sc_has_right_length.nd
    refine ⟨_, (pss_one (ps_ret (pe_and (pe_cmpR op_eq (pe_op op_mod (pe_callB call_len_seq (by rfl) T.b_len bt_len (pa_cons (pv 0) pa_nil)) pe_int) pe_int (nomark _)) (pe_one (pe_chain op_le op_le (pe_gE (by rfl) T.c_FEWEST_CORNERS) (pe_op op_sub (pe_op op_fdivB (pe_callB call_len_seq (by rfl) T.b_len bt_len (pa_cons (pv 0) pa_nil)) pe_int) pe_int) (pe_gE (by rfl) T.c_MOST_CORNERS)))))), ?_⟩
    refine ⟨_, rfl, a, _, rfl, .inl hS, _, _, rfl, rfl, (by show (0 : Int) < 3; decide), rfl, _, rfl, ?_⟩
    refine ite2 (fun c => ?_) (fun c => ?_)
    · have c : (xs.length : Int) % 3 = 0 := by simpa using c
      refine ⟨_, rfl, a, _, rfl, .inl hS, _, _, rfl, rfl, ⟨by decide, PyProof.noPylong_small (by decide)⟩, _, _, rfl, rfl, _, _, rfl, rfl, _, rfl, ?_⟩
      refine ite2 (fun d => ?_) (fun d => ?_)
      · refine ⟨_, _, rfl, rfl, k _ _ ?_ (Same.refl H)⟩
        have d : (3 : Int) ≤ (xs.length : Int) / 3 - 1 := by simpa using d
        simp
        omega
      · refine k _ _ ?_ (Same.refl H)
        have d : ¬ (3 : Int) ≤ (xs.length : Int) / 3 - 1 := by simpa using d
        simp
        omega
    · refine k _ _ ?_ (Same.refl H)
      have c : ¬ (xs.length : Int) % 3 = 0 := by simpa using c
      simp
      omega
def spWalls (K : PySem.W.Frag) : Sp := fun vs H Q _ => ∃ (a : Addr) (xs : List V), vs = [.ref a] ∧ SqL K H a xs ∧ ∀ H', Same H H' → Q (.int ((xs.length / 3 + 1 : Nat) : Int)) H'
theorem sc_count_walls : FnScope ["room"] ["room"] (defScope s_count_walls) := ⟨rfl, rfl, rfl, by decide +kernel, rfl, by decide +kernel, by decide +kernel⟩
theorem ok_count_walls (F : At K mg "count_walls" s_count_walls ["room"]) (T : Txt mg) : Def P w K mg base "count_walls" 1 ["room"] (spWalls K) := by
  refine F.ok sc_count_walls (fun vs H Q E h => ?_) (fun f cdv A outer s H vs Q E hr h => ?_)
  · obtain ⟨a, xs, rfl, _⟩ := h
    rfl
  · obtain ⟨a, xs, rfl, hS, k⟩ := h
    have nd := sc_count_walls.nd
    refine ⟨_, (pss_one (ps_ret (pe_op op_add (pe_op op_fdivB (pe_callB call_len_seq (by rfl) T.b_len bt_len (pa_cons (pv 0) pa_nil)) pe_int) pe_int))), ?_⟩
    exact ⟨_, rfl, a, _, rfl, .inl hS, _, _, rfl, rfl, ⟨by decide, PyProof.noPylong_small (by decide)⟩, _, _, rfl, rfl, k _ (Same.refl H)⟩
def spHeadOk (K : PySem.W.Frag) : Sp := fun vs H Q _ => ∃ (a : Addr) (ns : List Int), vs = [.ref a] ∧ SqL K H a (ns.map V.int) ∧ 3 ≤ ns.length ∧ ∀ b H', (b = true ↔ (1 ≤ ns.getD 0 0 ∧ ns.getD 0 0 ≤ 4095) ∧ (0 ≤ ns.getD 1 0 ∧ ns.getD 1 0 ≤ 7) ∧ (0 ≤ ns.getD 2 0 ∧ ns.getD 2 0 ≤ 7)) → Same H H' → Q (.bl b) H'
theorem at_int {ns : List Int} {i : Nat} {z : Int} (e : z = (i : Int)) (h : i < ns.length) : atI (ns.map V.int) z = some (V.int (ns.getD i 0)) := by
  refine atI_eq e ?_
  rw [List.getElem?_map, List.getElem?_eq_getElem h, List.getD_eq_getElem?_getD, List.getElem?_eq_getElem h]
  rfl
theorem sc_has_right_head : FnScope ["room"] ["room"] (defScope s_has_right_head) := ⟨rfl, rfl, rfl, by decide +kernel, rfl, by decide +kernel, by decide +kernel⟩
theorem ok_has_right_head (F : At K mg "has_right_head" s_has_right_head ["room"]) (T : Txt mg) (D_is_stuff : Def P w K mg base "is_stuff" 1 ["number"] (spRng 7)) : Def P w K mg base "has_right_head" 2 ["room"] (spHeadOk K) := by
  refine F.ok sc_has_right_head (fun vs H Q E h => ?_) (fun f cdv A outer s H vs Q E hr h => ?_)
  · obtain ⟨a, xs, rfl, _⟩ := h
    rfl
  · obtain ⟨a, ns, rfl, hS, hl, k⟩ := h
    have nd := sc_has_right_head.nd
    refine ⟨_, (pss_one (ps_ret (pe_and (pe_chain op_le op_le pe_int (pe_ix ix_list (pv 0) pe_int (fun _ _ => rfl)) (pe_gE (by rfl) T.c_GREATEST_PLACE)) (pe_and (pe_callD D_is_stuff hr (pa_cons (pe_ix ix_list (pv 0) pe_int (fun _ _ => rfl)) pa_nil)) (pe_one (pe_callD D_is_stuff hr (pa_cons (pe_ix ix_list (pv 0) pe_int (fun _ _ => rfl)) pa_nil))))))), ?_⟩
    refine ⟨_, rfl, a, _, _, _, rfl, rfl, hS, at_int (i := 0) rfl (by omega), _, _, rfl, rfl, _, rfl, ?_⟩
    refine ite2 (fun c => ?_) (fun c => ?_)
    · have c : 1 ≤ ns.getD 0 0 := by simpa using c
      refine ⟨_, _, rfl, rfl, _, rfl, ?_⟩
      refine ite2 (fun d => ?_) (fun d => ?_)
      · have d : ns.getD 0 0 ≤ 4095 := by simpa using d
        refine ⟨_, rfl, a, _, _, _, rfl, rfl, hS, at_int (i := 1) rfl (by omega), _, rfl, fun b1 H1 hb1 s1 => ⟨_, rfl, ?_⟩⟩
        refine ite2 (fun g => ?_) (fun g => ?_)
        · refine ⟨_, rfl, a, _, _, _, rfl, rfl, s1.seq hS, at_int (i := 2) rfl (by omega), _, rfl, fun b2 H2 hb2 s2 => k _ _ ?_ (s1.trans s2)⟩
          rw [hb2]
          have := hb1.mp g
          constructor
          · intro q; exact ⟨⟨c, d⟩, this, q⟩
          · intro q; exact q.2.2
        · refine k _ _ ?_ s1
          have : ¬ _ := fun q => g (hb1.mpr q)
          constructor
          · intro q; cases q
          · intro q; exact absurd q.2.1 this
      · refine k _ _ ?_ (Same.refl H)
        have d : ¬ ns.getD 0 0 ≤ 4095 := by simpa using d
        constructor
        · intro q; cases q
        · intro q; exact absurd q.1.2 d
    · refine ⟨_, rfl, iteF (k _ _ ?_ (Same.refl H))⟩
      have c : ¬ 1 ≤ ns.getD 0 0 := by simpa using c
      constructor
      · intro q; cases q
      · intro q; exact absurd q.1.1 c
def spCorner : Sp := fun vs H Q _ => ∃ (p : Addr) (c : Tri), vs = [.ref p] ∧ TriAt H p c ∧ ∀ b H', (b = true ↔ (0 ≤ c.1 ∧ c.1 ≤ 4095) ∧ (0 ≤ c.2.1 ∧ c.2.1 ≤ 4095) ∧ (0 ≤ c.2.2 ∧ c.2.2 ≤ 7)) → Same H H' → Q (.bl b) H'
theorem sc_is_corner : FnScope ["corner"] ["corner"] (defScope s_is_corner) := ⟨rfl, rfl, rfl, by decide +kernel, rfl, by decide +kernel, by decide +kernel⟩
theorem ok_is_corner (F : At K mg "is_corner" s_is_corner ["corner"]) (T : Txt mg) (D_is_place : Def P w K mg base "is_place" 1 ["number"] (spRng 4095)) (D_is_stuff : Def P w K mg base "is_stuff" 1 ["number"] (spRng 7)) : Def P w K mg base "is_corner" 2 ["corner"] spCorner := by
  refine F.ok sc_is_corner (fun vs H Q E h => ?_) (fun f cdv A outer s H vs Q E hr h => ?_)
  · obtain ⟨a, xs, rfl, _⟩ := h
    rfl
  · obtain ⟨p, c, rfl, hS, k⟩ := h
    have nd := sc_is_corner.nd
    refine ⟨_, (pss_one (ps_ret (pe_and (pe_callD D_is_place hr (pa_cons (pe_ix ix_tup (pv 0) pe_int (fun _ _ => rfl)) pa_nil)) (pe_and (pe_callD D_is_place hr (pa_cons (pe_ix ix_tup (pv 0) pe_int (fun _ _ => rfl)) pa_nil)) (pe_one (pe_callD D_is_stuff hr (pa_cons (pe_ix ix_tup (pv 0) pe_int (fun _ _ => rfl)) pa_nil))))))), ?_⟩
    refine ⟨_, rfl, p, _, _, _, rfl, rfl, SqT.of hS, rfl, _, rfl, fun b1 H1 hb1 s1 => ⟨_, rfl, ?_⟩⟩
    refine ite2 (fun g1 => ?_) (fun g1 => ?_)
    · refine ⟨_, rfl, p, _, _, _, rfl, rfl, SqT.of (s1 _ _ hS), rfl, _, rfl, fun b2 H2 hb2 s2 => ⟨_, rfl, ?_⟩⟩
      refine ite2 (fun g2 => ?_) (fun g2 => ?_)
      · refine ⟨_, rfl, p, _, _, _, rfl, rfl, SqT.of (s2 _ _ (s1 _ _ hS)), rfl, _, rfl, fun b3 H3 hb3 s3 => k _ _ ?_ (s1.trans (s2.trans s3))⟩
        rw [hb3]
        exact ⟨fun q => ⟨hb1.mp g1, hb2.mp g2, q⟩, fun q => q.2.2⟩
      · exact k _ _ (no_iff fun q => g2 (hb2.mpr q.2.1)) (s1.trans s2)
    · exact k _ _ (no_iff fun q => g1 (hb1.mpr q.1)) s1
end
end Gn
set_option Elab.async false
set_option maxRecDepth 100000
set_option maxHeartbeats 4000000
namespace Gn
open PySem PySem.Spec PyProof.Rows L2 Lw
open PySem.W (Codec WData)
section
variable {P : Program} {w : World} {K : PySem.W.Frag} {mg : Str → Option Value} {base : Heap}
def spEnds : Sp := fun vs H Q _ => ∃ (a : Addr) (C : List Tri) (i : Nat), vs = [.ref a, .int (i : Int)] ∧ CsAt H a C ∧ C ≠ [] ∧ ∀ H' p, Same H H' → EndsAt H' p (atC C i) (atC C (i + 1)) → Q (.ref p) H'
theorem sc_find_ends : FnScope ["corners", "line"] ["corners", "line"] (defScope s_find_ends) := ⟨rfl, rfl, rfl, by decide +kernel, rfl, by decide +kernel, by decide +kernel⟩
theorem ok_find_ends (F : At K mg "find_ends" s_find_ends ["corners", "line"]) (T : Txt mg) : Def P w K mg base "find_ends" 1 ["corners", "line"] spEnds := by
  refine F.ok sc_find_ends (fun vs H Q E h => ?_) (fun f cdv A outer s H vs Q E hr h => ?_)
  · obtain ⟨a, C, i, rfl, _⟩ := h
    rfl
  · obtain ⟨a, C, i, rfl, hC, hne, k⟩ := h
    have nd := sc_find_ends.nd
    obtain ⟨ps, h1, h2, h3⟩ := hC.len
    obtain ⟨p1, e1, t1⟩ := h3 i hne
    obtain ⟨p2, e2, t2⟩ := h3 (i + 1) hne
    have hp : (0 : Int) < (((ps.map V.ref).length : Nat) : Int) := by
      have := List.length_pos_iff.mpr hne
      omega
    rw [← h2] at e1 e2
    refine ⟨_, (pss_one (ps_ret (pe_tup (pa_cons (pe_ix ix_list (pv 0) (pe_op op_mod (pv 1) (pe_callB call_len_seq (by rfl) T.b_len bt_len (pa_cons (pv 0) pa_nil))) (fun _ _ => rfl)) (pa_cons (pe_ix ix_list (pv 0) (pe_op op_mod (pe_op op_add (pv 1) pe_int) (pe_callB call_len_seq (by rfl) T.b_len bt_len (pa_cons (pv 0) pa_nil))) (fun _ _ => rfl)) pa_nil))))), ?_⟩
    refine ⟨_, rfl, _, rfl, _, rfl, a, _, rfl, .inl (SqL.of h1), _, _, rfl, rfl, hp, a, _, _, _, rfl, rfl, SqL.of h1, atI_mod e1, ?_⟩
    refine ⟨_, rfl, _, rfl, _, _, rfl, rfl, _, rfl, a, _, rfl, .inl (SqL.of h1), _, _, rfl, rfl, hp, a, _, _, _, rfl, rfl, SqL.of h1, atI_mod (i := i + 1) e2, ?_⟩
    refine ⟨(by show 2 ≤ sizeLine; decide), fun p hp => ?_⟩
    have sn := same_new (o := HO.tup [.ref p1, .ref p2]) hp
    exact k _ p sn ⟨p1, p2, upd_same, t1.same sn, t2.same sn⟩
def runX (C : List Tri) (i : Nat) : Int := (atC C (i + 1)).1 - (atC C i).1
def runY (C : List Tri) (i : Nat) : Int := (atC C (i + 1)).2.1 - (atC C i).2.1
def spRun : Sp := fun vs H Q _ => ∃ (a : Addr) (C : List Tri) (i : Nat), vs = [.ref a, .int (i : Int)] ∧ CsAt H a C ∧ C ≠ [] ∧ ∀ H' p, Same H H' → H' p = some (.tup [.int (runX C i), .int (runY C i)]) → Q (.ref p) H'
theorem sc_find_run : FnScope ["corners", "line", "ends"] ["corners", "line"] (defScope s_find_run) := ⟨rfl, rfl, rfl, by decide +kernel, rfl, by decide +kernel, by decide +kernel⟩
theorem ok_find_run (F : At K mg "find_run" s_find_run ["corners", "line"]) (T : Txt mg) (D_find_ends : Def P w K mg base "find_ends" 1 ["corners", "line"] spEnds) : Def P w K mg base "find_run" 2 ["corners", "line"] spRun := by
  refine F.ok sc_find_run (fun vs H Q E h => ?_) (fun f cdv A outer s H vs Q E hr h => ?_)
  · obtain ⟨a, C, i, rfl, _⟩ := h
    rfl
  · obtain ⟨a, C, i, rfl, hC, hne, k⟩ := h
    have nd := sc_find_run.nd
    refine ⟨_, (pss_cons (ps_set (i := 2) nd rfl (Or.inl rfl) (pe_callD D_find_ends hr (pa_cons (pv 0) (pa_cons (pv 1) pa_nil))))
      (pss_one (ps_ret (pe_tup (pa_cons (pe_op op_sub (pe_ix ix_tup (pe_ix ix_tup (pv 2) pe_int (fun _ _ => rfl)) pe_int (fun _ _ => rfl)) (pe_ix ix_tup (pe_ix ix_tup (pv 2) pe_int (fun _ _ => rfl)) pe_int (fun _ _ => rfl))) (pa_cons (pe_op op_sub (pe_ix ix_tup (pe_ix ix_tup (pv 2) pe_int (fun _ _ => rfl)) pe_int (fun _ _ => rfl)) (pe_ix ix_tup (pe_ix ix_tup (pv 2) pe_int (fun _ _ => rfl)) pe_int (fun _ _ => rfl))) pa_nil)))))), ?_⟩
    refine ⟨_, rfl, _, rfl, a, C, i, rfl, hC, hne, fun H1 p s1 hE => ?_⟩
    obtain ⟨p1, p2, e, ⟨_, t1⟩, ⟨_, t2⟩⟩ := hE
    refine ⟨_, rfl, p, _, _, _, rfl, rfl, SqT.of e, rfl, p2, _, _, _, rfl, rfl, SqT.of t2, at0, ?_⟩
    refine ⟨_, rfl, p, _, _, _, rfl, rfl, SqT.of e, rfl, p1, _, _, _, rfl, rfl, SqT.of t1, at0, _, _, rfl, rfl, ?_⟩
    refine ⟨_, rfl, p, _, _, _, rfl, rfl, SqT.of e, rfl, p2, _, _, _, rfl, rfl, SqT.of t2, at1, ?_⟩
    refine ⟨_, rfl, p, _, _, _, rfl, rfl, SqT.of e, rfl, p1, _, _, _, rfl, rfl, SqT.of t1, at1, _, _, rfl, rfl, ?_⟩
    exact ⟨(by show 2 ≤ sizeLine; decide), fun q hq => k _ q (s1.trans (same_new hq)) upd_same⟩
def spDir : Sp := fun vs H Q _ => ∃ (a : Addr) (C : List Tri) (i : Nat), vs = [.ref a, .int (i : Int)] ∧ CsAt H a C ∧ C ≠ [] ∧ ∀ b H', (b = true ↔ (if runX C i = 0 ∨ runY C i = 0 then runX C i ≠ runY C i else (runX C i).natAbs = (runY C i).natAbs)) → Same H H' → Q (.bl b) H'
theorem sc_runs_in_a_direction : FnScope ["corners", "line", "run"] ["corners", "line"] (defScope s_runs_in_a_direction) := ⟨rfl, rfl, rfl, by decide +kernel, rfl, by decide +kernel, by decide +kernel⟩
theorem ok_runs_in_a_direction (F : At K mg "runs_in_a_direction" s_runs_in_a_direction ["corners", "line"]) (T : Txt mg) (D_find_run : Def P w K mg base "find_run" 2 ["corners", "line"] spRun) : Def P w K mg base "runs_in_a_direction" 3 ["corners", "line"] spDir := by
  refine F.ok sc_runs_in_a_direction (fun vs H Q E h => ?_) (fun f cdv A outer s H vs Q E hr h => ?_)
  · obtain ⟨a, C, i, rfl, _⟩ := h
    rfl
  · obtain ⟨a, C, i, rfl, hC, hne, k⟩ := h
    have nd := sc_runs_in_a_direction.nd
    refine ⟨_, (pss_cons (ps_set (i := 2) nd rfl (Or.inl rfl) (pe_callD D_find_run hr (pa_cons (pv 0) (pa_cons (pv 1) pa_nil))))
      (pss_cons (ps_if (pt_or (pt_cmpR op_eq (pe_ix ix_tup (pv 2) pe_int (fun _ _ => rfl)) pe_int (nomark _)) (pw_or1 (pt_cmpR op_eq (pe_ix ix_tup (pv 2) pe_int (fun _ _ => rfl)) pe_int (nomark _)))) (pss_one (ps_ret (pe_cmpR op_ne (pe_ix ix_tup (pv 2) pe_int (fun _ _ => rfl)) (pe_ix ix_tup (pv 2) pe_int (fun _ _ => rfl)) (nomark _)))) pss_nil)
      (pss_one (ps_ret (pe_cmpR op_eq (pe_callB call_abs (by rfl) T.b_abs bt_abs (pa_cons (pe_ix ix_tup (pv 2) pe_int (fun _ _ => rfl)) pa_nil)) (pe_callB call_abs (by rfl) T.b_abs bt_abs (pa_cons (pe_ix ix_tup (pv 2) pe_int (fun _ _ => rfl)) pa_nil)) (nomark _)))))), ?_⟩
    refine ⟨_, rfl, _, rfl, a, C, i, rfl, hC, hne, fun H1 p s1 e => ?_⟩
    generalize runX C i = x at *
    generalize runY C i = y at *
    have zero : (x = 0 ∨ y = 0) → tRet (tOp rNe (tOp (rIxT K) (tVar 2) (tC (.int 0))) (tOp (rIxT K) (tVar 2) (tC (.int 1)))) { nx := fun _ H' => Q .non H', rt := Q } ([some (.ref a), some (.int (i : Int)), some (.ref p)]) H1 := fun z => by
      refine ⟨_, rfl, p, _, _, _, rfl, rfl, SqT.of e, rfl, _, rfl, p, _, _, _, rfl, rfl, SqT.of e, rfl, rfl, k _ _ ?_ s1⟩
      rw [if_pos z]
      simp
    refine ⟨_, rfl, p, _, _, _, rfl, rfl, SqT.of e, rfl, rfl, _, rfl, ?_⟩
    refine ite2 (fun c => ?_) (fun c => ?_)
    · have c : x = 0 := by simpa using c
      exact zero (.inl c)
    · have c : ¬ x = 0 := by simpa using c
      refine ⟨_, rfl, p, _, _, _, rfl, rfl, SqT.of e, rfl, rfl, _, rfl, ?_⟩
      refine ite2 (fun d => ?_) (fun d => ?_)
      · have d : y = 0 := by simpa using d
        exact zero (.inr d)
      · have d : ¬ y = 0 := by simpa using d
        refine ⟨_, rfl, p, _, _, _, rfl, rfl, SqT.of e, rfl, _, rfl, _, rfl, p, _, _, _, rfl, rfl, SqT.of e, rfl, _, rfl, rfl, k _ _ ?_ s1⟩
        have nz : ¬ (x = 0 ∨ y = 0) := by
          rintro (z | z)
          · exact c z
          · exact d z
        rw [if_neg nz]
        simp
        omega
def spStraight : Sp := fun vs H Q _ => ∃ (a : Addr) (C : List Tri) (i : Nat), vs = [.ref a, .int (i : Int)] ∧ CsAt H a C ∧ C ≠ [] ∧ (∀ c ∈ C, Bd c) ∧ ∀ b H', (b = true ↔ runX C i * runY C (i + 1) = runY C i * runX C (i + 1)) → Same H H' → Q (.bl b) H'
theorem run_bd {C : List Tri} (h : ∀ c ∈ C, Bd c) (i : Nat) : (runX C i).natAbs < 2 ^ 65 ∧ (runY C i).natAbs < 2 ^ 65 := by
  have a := atC_bd h i
  have b := atC_bd h (i + 1)
  exact ⟨d65 b.1 a.1, d65 b.2 a.2⟩
theorem sc_goes_straight_on : FnScope ["corners", "line", "first", "second"] ["corners", "line"] (defScope s_goes_straight_on) := ⟨rfl, rfl, rfl, by decide +kernel, rfl, by decide +kernel, by decide +kernel⟩
theorem ok_goes_straight_on (F : At K mg "goes_straight_on" s_goes_straight_on ["corners", "line"]) (T : Txt mg) (D_find_run : Def P w K mg base "find_run" 2 ["corners", "line"] spRun) : Def P w K mg base "goes_straight_on" 3 ["corners", "line"] spStraight := by
  refine F.ok sc_goes_straight_on (fun vs H Q E h => ?_) (fun f cdv A outer s H vs Q E hr h => ?_)
  · obtain ⟨a, C, i, rfl, _⟩ := h
    rfl
  · obtain ⟨a, C, i, rfl, hC, hne, hb, k⟩ := h
    have nd := sc_goes_straight_on.nd
    have b1 := run_bd hb i
    have b2 := run_bd hb (i + 1)
    refine ⟨_, (pss_cons (ps_set (i := 2) nd rfl (Or.inl rfl) (pe_callD D_find_run hr (pa_cons (pv 0) (pa_cons (pv 1) pa_nil))))
      (pss_cons (ps_set (i := 3) nd rfl (Or.inl rfl) (pe_callD D_find_run hr (pa_cons (pv 0) (pa_cons (pe_op op_add (pv 1) pe_int) pa_nil))))
      (pss_one (ps_ret (pe_cmpR op_eq (pe_op op_mulB (pe_ix ix_tup (pv 2) pe_int (fun _ _ => rfl)) (pe_ix ix_tup (pv 3) pe_int (fun _ _ => rfl))) (pe_op op_mulB (pe_ix ix_tup (pv 2) pe_int (fun _ _ => rfl)) (pe_ix ix_tup (pv 3) pe_int (fun _ _ => rfl))) (nomark _)))))), ?_⟩
    refine ⟨_, rfl, _, rfl, a, C, i, rfl, hC, hne, fun H1 p s1 e => ?_⟩
    refine ⟨_, rfl, _, rfl, _, _, rfl, rfl, a, C, i + 1, rfl, hC.same s1, hne, fun H2 q s2 e2 => ?_⟩
    have e := s2 _ _ e
    refine ⟨_, rfl, p, _, _, _, rfl, rfl, SqT.of e, rfl, _, rfl, q, _, _, _, rfl, rfl, SqT.of e2, rfl, _, _, rfl, rfl, mulOk b1.1 b2.2 (by decide), ?_⟩
    refine ⟨_, rfl, p, _, _, _, rfl, rfl, SqT.of e, rfl, _, rfl, q, _, _, _, rfl, rfl, SqT.of e2, rfl, _, _, rfl, rfl, mulOk b1.2 b2.1 (by decide), rfl, k _ _ ?_ (s1.trans s2)⟩
    simp
def side (a b p : Tri) : Int := (b.1 - a.1) * (p.2.1 - a.2.1) - (b.2.1 - a.2.1) * (p.1 - a.1)
def spSide : Sp := fun vs H Q _ => ∃ (pa pb pp : Addr) (a b p : Tri), vs = [.ref pa, .ref pb, .ref pp] ∧ XyAt H pa a ∧ XyAt H pb b ∧ XyAt H pp p ∧ Bd a ∧ Bd b ∧ Bd p ∧ ∀ H', Same H H' → Q (.int (side a b p)) H'
theorem sc_find_side : FnScope ["start", "end", "point"] ["start", "end", "point"] (defScope s_find_side) := ⟨rfl, rfl, rfl, by decide +kernel, rfl, by decide +kernel, by decide +kernel⟩
theorem ok_find_side (F : At K mg "find_side" s_find_side ["start", "end", "point"]) (T : Txt mg) : Def P w K mg base "find_side" 1 ["start", "end", "point"] spSide := by
  refine F.ok sc_find_side (fun vs H Q E h => ?_) (fun f cdv A outer s H vs Q E hr h => ?_)
  · obtain ⟨_, _, _, _, _, _, rfl, _⟩ := h
    rfl
  · obtain ⟨pa, pb, pp, a, b, p, rfl, ⟨_, ha⟩, ⟨_, hb⟩, ⟨_, hp⟩, ba, bb, bp, k⟩ := h
    have nd := sc_find_side.nd
    refine ⟨_, (pss_one (ps_ret (pe_op op_sub (pe_op op_mulB (pe_op op_sub (pe_ix ix_tup (pv 1) pe_int (fun _ _ => rfl)) (pe_ix ix_tup (pv 0) pe_int (fun _ _ => rfl))) (pe_op op_sub (pe_ix ix_tup (pv 2) pe_int (fun _ _ => rfl)) (pe_ix ix_tup (pv 0) pe_int (fun _ _ => rfl)))) (pe_op op_mulB (pe_op op_sub (pe_ix ix_tup (pv 1) pe_int (fun _ _ => rfl)) (pe_ix ix_tup (pv 0) pe_int (fun _ _ => rfl))) (pe_op op_sub (pe_ix ix_tup (pv 2) pe_int (fun _ _ => rfl)) (pe_ix ix_tup (pv 0) pe_int (fun _ _ => rfl))))))), ?_⟩
    refine ⟨_, rfl, pb, _, _, _, rfl, rfl, SqT.of hb, at0, _, rfl, pa, _, _, _, rfl, rfl, SqT.of ha, at0, _, _, rfl, rfl, ?_⟩
    refine ⟨_, rfl, pp, _, _, _, rfl, rfl, SqT.of hp, at1, _, rfl, pa, _, _, _, rfl, rfl, SqT.of ha, at1, _, _, rfl, rfl, _, _, rfl, rfl, mulOk (d65 bb.1 ba.1) (d65 bp.2 ba.2) (by decide), ?_⟩
    refine ⟨_, rfl, pb, _, _, _, rfl, rfl, SqT.of hb, at1, _, rfl, pa, _, _, _, rfl, rfl, SqT.of ha, at1, _, _, rfl, rfl, ?_⟩
    exact ⟨_, rfl, pp, _, _, _, rfl, rfl, SqT.of hp, at0, _, rfl, pa, _, _, _, rfl, rfl, SqT.of ha, at0, _, _, rfl, rfl, _, _, rfl, rfl, mulOk (d65 bb.2 ba.2) (d65 bp.1 ba.1) (by decide), _, _, rfl, rfl, k _ (Same.refl H)⟩
theorem side_bd {a b p : Tri} (ba : Bd a) (bb : Bd b) (bp : Bd p) : (side a b p).natAbs < 2 ^ 131 := sub_bd (mul_bd (d65 bb.1 ba.1) (d65 bp.2 ba.2)) (mul_bd (d65 bb.2 ba.2) (d65 bp.1 ba.1))
def spAcross : Sp := fun vs H Q _ => ∃ (pf ps : Addr) (a b c d : Tri), vs = [.ref pf, .ref ps] ∧ EndsAt H pf a b ∧ EndsAt H ps c d ∧ Bd a ∧ Bd b ∧ Bd c ∧ Bd d ∧ ∀ v H', (v = true ↔ side a b c * side a b d ≤ 0) → Same H H' → Q (.bl v) H'
theorem sc_reaches_across : FnScope ["first", "second"] ["first", "second"] (defScope s_reaches_across) := ⟨rfl, rfl, rfl, by decide +kernel, rfl, by decide +kernel, by decide +kernel⟩
theorem ok_reaches_across (F : At K mg "reaches_across" s_reaches_across ["first", "second"]) (T : Txt mg) (D_find_side : Def P w K mg base "find_side" 1 ["start", "end", "point"] spSide) : Def P w K mg base "reaches_across" 2 ["first", "second"] spAcross := by
  refine F.ok sc_reaches_across (fun vs H Q E h => ?_) (fun f cdv A outer s H vs Q E hr h => ?_)
  · obtain ⟨_, _, _, _, _, _, rfl, _⟩ := h
    rfl
  · obtain ⟨pf, ps, a, b, c, d, rfl, ⟨q1, q2, ef, ha, hb⟩, ⟨q3, q4, es, hc, hd⟩, ba, bb, bc, bd, k⟩ := h
    have nd := sc_reaches_across.nd
    refine ⟨_, (pss_one (ps_ret (pe_cmpR op_le (pe_op op_mulB (pe_callD D_find_side hr (pa_cons (pe_ix ix_tup (pv 0) pe_int (fun _ _ => rfl)) (pa_cons (pe_ix ix_tup (pv 0) pe_int (fun _ _ => rfl)) (pa_cons (pe_ix ix_tup (pv 1) pe_int (fun _ _ => rfl)) pa_nil)))) (pe_callD D_find_side hr (pa_cons (pe_ix ix_tup (pv 0) pe_int (fun _ _ => rfl)) (pa_cons (pe_ix ix_tup (pv 0) pe_int (fun _ _ => rfl)) (pa_cons (pe_ix ix_tup (pv 1) pe_int (fun _ _ => rfl)) pa_nil))))) pe_int (nomark _)))), ?_⟩
    refine ⟨_, rfl, pf, _, _, _, rfl, rfl, SqT.of ef, rfl, _, rfl, pf, _, _, _, rfl, rfl, SqT.of ef, rfl, _, rfl, ps, _, _, _, rfl, rfl, SqT.of es, rfl, q1, q2, q3, a, b, c, rfl, ha, hb, hc, ba, bb, bc, fun H1 s1 => ?_⟩
    have ef := s1 _ _ ef
    have es := s1 _ _ es
    refine ⟨_, rfl, pf, _, _, _, rfl, rfl, SqT.of ef, rfl, _, rfl, pf, _, _, _, rfl, rfl, SqT.of ef, rfl, _, rfl, ps, _, _, _, rfl, rfl, SqT.of es, rfl, q1, q2, q4, a, b, d, rfl, ha.same s1, hb.same s1, hd.same s1, ba, bb, bd, fun H2 s2 => ?_⟩
    refine ⟨_, _, rfl, rfl, mulOk (side_bd ba bb bc) (side_bd ba bb bd) (by decide), _, _, rfl, rfl, k _ _ ?_ (s1.trans s2)⟩
    simp
end
end Gn
set_option Elab.async false
set_option maxRecDepth 100000
set_option maxHeartbeats 4000000
namespace Gn
open PySem PySem.Spec PyProof.Rows L2 Lw
open PySem.W (Codec WData)
section
variable {P : Program} {w : World} {K : PySem.W.Frag} {mg : Str → Option Value} {base : Heap}
def co (c : Tri) (axis : Nat) : Int := if axis = 0 then c.1 else c.2.1
def rangesM (a b c d : Tri) (x : Nat) : Prop := max (min (co a x) (co b x)) (min (co c x) (co d x)) ≤ min (max (co a x) (co b x)) (max (co c x) (co d x))
def spRanges : Sp := fun vs H Q _ => ∃ (pf ps : Addr) (a b c d : Tri) (x : Nat), vs = [.ref pf, .ref ps, .int (x : Int)] ∧ EndsAt H pf a b ∧ EndsAt H ps c d ∧ x < 2 ∧ ∀ v H', (v = true ↔ rangesM a b c d x) → Same H H' → Q (.bl v) H'
theorem tri_at {c : Tri} {x : Nat} {r : List V} (h : x < 2) : atI (V.int c.1 :: V.int c.2.1 :: r) (x : Int) = some (V.int (co c x)) := by
  have : x = 0 ∨ x = 1 := by omega
  rcases this with rfl | rfl
  · exact at0
  · exact at1
theorem sc_ranges_meet : FnScope ["first", "second", "axis", "lower", "upper"] ["first", "second", "axis"] (defScope s_ranges_meet) := ⟨rfl, rfl, rfl, by decide +kernel, rfl, by decide +kernel, by decide +kernel⟩
theorem ok_ranges_meet (F : At K mg "ranges_meet" s_ranges_meet ["first", "second", "axis"]) (T : Txt mg) : Def P w K mg base "ranges_meet" 1 ["first", "second", "axis"] spRanges := by
  refine F.ok sc_ranges_meet (fun vs H Q E h => ?_) (fun f cdv A outer s H vs Q E hr h => ?_)
  · obtain ⟨_, _, _, _, _, _, _, rfl, _⟩ := h
    rfl
  · obtain ⟨pf, ps, a, b, c, d, x, rfl, ⟨q1, q2, ef, ⟨_, ha⟩, ⟨_, hb⟩⟩, ⟨q3, q4, es, ⟨_, hc⟩, ⟨_, hd⟩⟩, hx, k⟩ := h
    have nd := sc_ranges_meet.nd
    refine ⟨_, (pss_cons (ps_set (i := 3) nd rfl (Or.inl rfl) (pe_callB (call_max2 rfl) (by rfl) T.b_max bt_max (pa_cons (pe_callB (call_min2 rfl) (by rfl) T.b_min bt_min (pa_cons (pe_ix ix_tup (pe_ix ix_tup (pv 0) pe_int (fun _ _ => rfl)) (pv 2) (fun _ _ => rfl)) (pa_cons (pe_ix ix_tup (pe_ix ix_tup (pv 0) pe_int (fun _ _ => rfl)) (pv 2) (fun _ _ => rfl)) pa_nil))) (pa_cons (pe_callB (call_min2 rfl) (by rfl) T.b_min bt_min (pa_cons (pe_ix ix_tup (pe_ix ix_tup (pv 1) pe_int (fun _ _ => rfl)) (pv 2) (fun _ _ => rfl)) (pa_cons (pe_ix ix_tup (pe_ix ix_tup (pv 1) pe_int (fun _ _ => rfl)) (pv 2) (fun _ _ => rfl)) pa_nil))) pa_nil))))
      (pss_cons (ps_set (i := 4) nd rfl (Or.inl rfl) (pe_callB (call_min2 rfl) (by rfl) T.b_min bt_min (pa_cons (pe_callB (call_max2 rfl) (by rfl) T.b_max bt_max (pa_cons (pe_ix ix_tup (pe_ix ix_tup (pv 0) pe_int (fun _ _ => rfl)) (pv 2) (fun _ _ => rfl)) (pa_cons (pe_ix ix_tup (pe_ix ix_tup (pv 0) pe_int (fun _ _ => rfl)) (pv 2) (fun _ _ => rfl)) pa_nil))) (pa_cons (pe_callB (call_max2 rfl) (by rfl) T.b_max bt_max (pa_cons (pe_ix ix_tup (pe_ix ix_tup (pv 1) pe_int (fun _ _ => rfl)) (pv 2) (fun _ _ => rfl)) (pa_cons (pe_ix ix_tup (pe_ix ix_tup (pv 1) pe_int (fun _ _ => rfl)) (pv 2) (fun _ _ => rfl)) pa_nil))) pa_nil))))
      (pss_one (ps_ret (pe_cmpR op_le (pv 3) (pv 4) (nomark _)))))), ?_⟩
    refine ⟨_, rfl, pf, _, _, _, rfl, rfl, SqT.of ef, rfl, _, rfl, q1, _, _, _, rfl, rfl, SqT.of ha, tri_at hx, ?_⟩
    refine ⟨_, rfl, pf, _, _, _, rfl, rfl, SqT.of ef, rfl, _, rfl, q2, _, _, _, rfl, rfl, SqT.of hb, tri_at hx, _, _, rfl, ?_⟩
    refine ⟨_, rfl, ps, _, _, _, rfl, rfl, SqT.of es, rfl, _, rfl, q3, _, _, _, rfl, rfl, SqT.of hc, tri_at hx, ?_⟩
    refine ⟨_, rfl, ps, _, _, _, rfl, rfl, SqT.of es, rfl, _, rfl, q4, _, _, _, rfl, rfl, SqT.of hd, tri_at hx, _, _, rfl, _, _, rfl, ?_⟩
    refine ⟨_, rfl, pf, _, _, _, rfl, rfl, SqT.of ef, rfl, _, rfl, q1, _, _, _, rfl, rfl, SqT.of ha, tri_at hx, ?_⟩
    refine ⟨_, rfl, pf, _, _, _, rfl, rfl, SqT.of ef, rfl, _, rfl, q2, _, _, _, rfl, rfl, SqT.of hb, tri_at hx, _, _, rfl, ?_⟩
    refine ⟨_, rfl, ps, _, _, _, rfl, rfl, SqT.of es, rfl, _, rfl, q3, _, _, _, rfl, rfl, SqT.of hc, tri_at hx, ?_⟩
    refine ⟨_, rfl, ps, _, _, _, rfl, rfl, SqT.of es, rfl, _, rfl, q4, _, _, _, rfl, rfl, SqT.of hd, tri_at hx, _, _, rfl, _, _, rfl, ?_⟩
    refine ⟨_, rfl, _, rfl, _, _, rfl, rfl, k _ _ ?_ (Same.refl H)⟩
    unfold rangesM
    generalize co a x = a
    generalize co b x = b
    generalize co c x = c
    generalize co d x = d
    rw [decide_eq_true_iff]
    omega
def meetM (a b c d : Tri) : Prop := rangesM a b c d 0 ∧ rangesM a b c d 1 ∧ side a b c * side a b d ≤ 0 ∧ side c d a * side c d b ≤ 0
def spMeet : Sp := fun vs H Q _ => ∃ (pf ps : Addr) (a b c d : Tri), vs = [.ref pf, .ref ps] ∧ EndsAt H pf a b ∧ EndsAt H ps c d ∧ Bd a ∧ Bd b ∧ Bd c ∧ Bd d ∧ ∀ v H', (v = true ↔ meetM a b c d) → Same H H' → Q (.bl v) H'
theorem sc_lines_meet : FnScope ["first", "second"] ["first", "second"] (defScope s_lines_meet) := ⟨rfl, rfl, rfl, by decide +kernel, rfl, by decide +kernel, by decide +kernel⟩
theorem ok_lines_meet (F : At K mg "lines_meet" s_lines_meet ["first", "second"]) (T : Txt mg) (D_ranges_meet : Def P w K mg base "ranges_meet" 1 ["first", "second", "axis"] spRanges) (D_reaches_across : Def P w K mg base "reaches_across" 2 ["first", "second"] spAcross) : Def P w K mg base "lines_meet" 3 ["first", "second"] spMeet := by
  refine F.ok sc_lines_meet (fun vs H Q E h => ?_) (fun f cdv A outer s H vs Q E hr h => ?_)
  · obtain ⟨_, _, _, _, _, _, rfl, _⟩ := h
    rfl
  · obtain ⟨pf, ps, a, b, c, d, rfl, ef, es, ba, bb, bc, bd, k⟩ := h
    have nd := sc_lines_meet.nd
    refine ⟨_, (pss_cons (ps_if (pt_not (pt_and (pt_val (pe_callD D_ranges_meet hr (pa_cons (pv 0) (pa_cons (pv 1) (pa_cons pe_int pa_nil))))) (pw_and1 (pt_val (pe_callD D_ranges_meet hr (pa_cons (pv 0) (pa_cons (pv 1) (pa_cons pe_int pa_nil)))))))) (pss_one (ps_ret pe_bl)) pss_nil)
      (pss_one (ps_ret (pe_and (pe_callD D_reaches_across hr (pa_cons (pv 0) (pa_cons (pv 1) pa_nil))) (pe_one (pe_callD D_reaches_across hr (pa_cons (pv 1) (pa_cons (pv 0) pa_nil)))))))), ?_⟩
    refine ⟨_, rfl, _, rfl, pf, ps, a, b, c, d, 0, rfl, ef, es, by decide, fun v1 H1 h1 s1 => ⟨_, rfl, ?_⟩⟩
    refine ite2 (fun g1 => ?_) (fun g1 => ?_)
    · refine ⟨_, rfl, _, rfl, pf, ps, a, b, c, d, 1, rfl, ef.same s1, es.same s1, by decide, fun v2 H2 h2 s2 => ⟨_, rfl, ?_⟩⟩
      have s12 := s1.trans s2
      cases v2 with
      | false => exact k _ _ (no_iff fun q => by have := h2.mpr q.2.1; cases this) s12
      | true =>
        refine ⟨_, rfl, _, rfl, pf, ps, a, b, c, d, rfl, ef.same s12, es.same s12, ba, bb, bc, bd, fun v3 H3 h3 s3 => ⟨_, rfl, ?_⟩⟩
        have s13 := s12.trans s3
        refine ite2 (fun g3 => ?_) (fun g3 => ?_)
        · refine ⟨_, rfl, _, rfl, ps, pf, c, d, a, b, rfl, es.same s13, ef.same s13, bc, bd, ba, bb, fun v4 H4 h4 s4 => k _ _ ?_ (s13.trans s4)⟩
          rw [h4]
          exact ⟨fun q => ⟨h1.mp g1, h2.mp rfl, h3.mp g3, q⟩, fun q => q.2.2.2⟩
        · exact k _ _ (no_iff fun q => g3 (h3.mpr q.2.2.1)) s13
    · exact k _ _ (no_iff fun q => g1 (h1.mpr q.1)) s1
def laterM (C : List Tri) (i : Nat) : Prop := ∃ j, i + 2 ≤ j ∧ j < C.length ∧ (j + 1) % C.length ≠ i ∧ meetM (atC C i) (atC C (i + 1)) (atC C j) (atC C (j + 1))
def spLater : Sp := fun vs H Q _ => ∃ (a : Addr) (C : List Tri) (i : Nat), vs = [.ref a, .int (i : Int)] ∧ CsAt H a C ∧ C ≠ [] ∧ C.length < 1000 ∧ i < 1000 ∧ (∀ c ∈ C, Bd c) ∧ ∀ b H', (b = true ↔ laterM C i) → Same H H' → Q (.bl b) H'
theorem sc_meets_a_later_line : FnScope ["corners", "line", "other", "is_neighbour"] ["corners", "line"] (defScope s_meets_a_later_line) := ⟨rfl, rfl, rfl, by decide +kernel, rfl, by decide +kernel, by decide +kernel⟩
theorem ok_meets_a_later_line (F : At K mg "meets_a_later_line" s_meets_a_later_line ["corners", "line"]) (T : Txt mg) (D_find_ends : Def P w K mg base "find_ends" 1 ["corners", "line"] spEnds) (D_lines_meet : Def P w K mg base "lines_meet" 3 ["first", "second"] spMeet) : Def P w K mg base "meets_a_later_line" 4 ["corners", "line"] spLater := by
  refine F.ok sc_meets_a_later_line (fun vs H Q E h => ?_) (fun f cdv A outer s H vs Q E hr h => ?_)
  · obtain ⟨_, _, _, rfl, _⟩ := h
    rfl
  · obtain ⟨a, C, i, rfl, hC, hne, hl, hi, hb, k⟩ := h
    have nd := sc_meets_a_later_line.nd
    obtain ⟨ps, h1, h2, _⟩ := hC.len
    have hpos := List.length_pos_iff.mpr hne
    refine ⟨_, (pss_cons (ps_for PassesOwn.never rfl (pi_range2 (by rfl) T.b_range (pa_cons (pe_op op_add (pv 1) pe_int) (pa_cons (pe_callB call_len_seq (by rfl) T.b_len bt_len (pa_cons (pv 0) pa_nil)) pa_nil))) (pg_name (i := 2) nd rfl (Or.inl rfl)) (pss_cons (ps_set (i := 3) nd rfl (Or.inl rfl) (pe_cmpR op_eq (pe_op op_mod (pe_op op_add (pv 2) pe_int) (pe_callB call_len_seq (by rfl) T.b_len bt_len (pa_cons (pv 0) pa_nil))) (pv 1) (nomark _)))
      (pss_one (ps_if (pt_and (pt_not (pt_val (pv 3))) (pw_and1 (pt_val (pe_callD D_lines_meet hr (pa_cons (pe_callD D_find_ends hr (pa_cons (pv 0) (pa_cons (pv 1) pa_nil))) (pa_cons (pe_callD D_find_ends hr (pa_cons (pv 0) (pa_cons (pv 2) pa_nil))) pa_nil)))))) (pss_one (ps_ret pe_bl)) pss_nil))))
      (pss_one (ps_ret pe_bl))), ?_⟩
    refine ⟨_, rfl, _, _, rfl, rfl, _, rfl, a, _, rfl, .inl (SqL.of h1), _, _, rfl, (by omega), ?_⟩
    refine for_range (lo := (i : Int) + 2) (n := (((ps.map V.ref).length : Nat) - ((i : Int) + 2) : Int).toNat)
      (fun m σ H' => ∃ v1 v2 : Option V, σ = [some (.ref a), some (.int (i : Int)), v1, v2] ∧ Same H H' ∧ ∀ j, i + 2 ≤ j → j < i + 2 + m → j < C.length → ¬ ((j + 1) % C.length ≠ i ∧ meetM (atC C i) (atC C (i + 1)) (atC C j) (atC C (j + 1))))
      ⟨none, none, rfl, Same.refl H, fun j x y => absurd y (by omega)⟩ ?_ ?_
    · rintro m σ H1 hm ⟨v1, v2, rfl, s1, hn⟩
      have hj : i + 2 + m < C.length := by omega
      have ej : (i : Int) + 2 + (m : Int) = ((i + 2 + m : Nat) : Int) := by omega
      rw [ej]
      have hp : (0 : Int) < (((ps.map V.ref).length : Nat) : Int) := by omega
      refine ⟨_, rfl, _, _, rfl, rfl, _, rfl, a, _, rfl, .inl (SqL.of (s1 _ _ h1)), _, _, rfl, rfl, hp, _, rfl, rfl, ?_⟩
      have s1C := hC.same s1
      refine ⟨_, rfl, _, rfl, ?_⟩
      cases e : decide (V.int ((((i + 2 + m : Nat) : Int) + 1) % (((ps.map V.ref).length : Nat) : Int)) = V.int (i : Int)) with
      | true =>
        have e : (i + 2 + m + 1) % C.length = i := by
          have e : (((i + 2 + m : Nat) : Int) + 1) % (((ps.map V.ref).length : Nat) : Int) = (i : Int) := by simpa using e
          rw [h2] at e
          exact_mod_cast e
        refine iteF (iteF ⟨_, _, rfl, s1, fun j x y z => ?_⟩)
        rcases Nat.lt_or_ge j (i + 2 + m) with c | c
        · exact hn j x c z
        · have : j = i + 2 + m := by omega
          subst this
          exact fun q => q.1 e
      | false =>
        have e : (i + 2 + m + 1) % C.length ≠ i := by
          have e : ¬ (((i + 2 + m : Nat) : Int) + 1) % (((ps.map V.ref).length : Nat) : Int) = (i : Int) := by simpa using e
          rw [h2] at e
          exact_mod_cast e
        refine iteT ⟨_, rfl, _, rfl, a, C, i, rfl, s1C, hne, fun H2 p s2 hE => ⟨_, rfl, _, rfl, a, C, i + 2 + m, rfl, s1C.same s2, hne, fun H3 q s3 hE3 => ⟨p, q, _, _, _, _, rfl, hE.same s3, hE3, atC_bd hb _, atC_bd hb _, atC_bd hb _, atC_bd hb _, fun v H4 h4 s4 => ⟨_, rfl, ?_⟩⟩⟩⟩
        have s14 := s1.trans (s2.trans (s3.trans s4))
        refine ite2 (fun g => ?_) (fun g => ?_)
        · exact k _ _ ⟨fun _ => ⟨i + 2 + m, by omega, hj, e, h4.mp g⟩, fun _ => rfl⟩ s14
        · refine ⟨_, _, rfl, s14, fun j x y z => ?_⟩
          rcases Nat.lt_or_ge j (i + 2 + m) with c | c
          · exact hn j x c z
          · have : j = i + 2 + m := by omega
            subst this
            exact fun q => g (h4.mpr q.2)
    · rintro σ H1 ⟨v1, v2, rfl, s1, hn⟩
      refine k _ _ (no_iff ?_) s1
      rintro ⟨j, x, y, z⟩
      exact hn j x (by omega) y z
end
end Gn
set_option Elab.async false
set_option maxRecDepth 100000
set_option maxHeartbeats 4000000
namespace Gn
open PySem PySem.Spec PyProof.Rows L2 Lw
open PySem.W (Codec WData)
section
variable {P : Program} {w : World} {K : PySem.W.Frag} {mg : Str → Option Value} {base : Heap}
def okTri (c : Tri) : Prop := (0 ≤ c.1 ∧ c.1 ≤ 4095) ∧ (0 ≤ c.2.1 ∧ c.2.1 ≤ 4095) ∧ (0 ≤ c.2.2 ∧ c.2.2 ≤ 7)
def dirM (C : List Tri) (i : Nat) : Prop := if runX C i = 0 ∨ runY C i = 0 then runX C i ≠ runY C i else (runX C i).natAbs = (runY C i).natAbs
def straightM (C : List Tri) (i : Nat) : Prop := runX C i * runY C (i + 1) = runY C i * runX C (i + 1)
def brk (C : List Tri) (r i : Nat) : Prop := if r = 3 then ¬ okTri (atC C i) else if r = 4 then ¬ dirM C i else if r = 5 then straightM C i else laterM C i
def spBrk : Sp := fun vs H Q _ => ∃ (a : Addr) (C : List Tri) (r i : Nat), vs = [.ref a, .int (r : Int), .int (i : Int)] ∧ CtAt H a C ∧ C.length < 1000 ∧ i < C.length ∧ (∀ c ∈ C, Bd c) ∧ ∀ b H', (b = true ↔ brk C r i) → Same H H' → Q (.bl b) H'
theorem sc_breaks_rule : FnScope ["corners", "rule", "wall"] ["corners", "rule", "wall"] (defScope s_breaks_rule) := ⟨rfl, rfl, rfl, by decide +kernel, rfl, by decide +kernel, by decide +kernel⟩
theorem ok_breaks_rule (F : At K mg "breaks_rule" s_breaks_rule ["corners", "rule", "wall"]) (T : Txt mg) (D_is_corner : Def P w K mg base "is_corner" 2 ["corner"] spCorner) (D_runs_in_a_direction : Def P w K mg base "runs_in_a_direction" 3 ["corners", "line"] spDir)
    (D_goes_straight_on : Def P w K mg base "goes_straight_on" 3 ["corners", "line"] spStraight) (D_meets_a_later_line : Def P w K mg base "meets_a_later_line" 4 ["corners", "line"] spLater) : Def P w K mg base "breaks_rule" 5 ["corners", "rule", "wall"] spBrk := by
  refine F.ok sc_breaks_rule (fun vs H Q E h => ?_) (fun f cdv A outer s H vs Q E hr h => ?_)
  · obtain ⟨_, _, _, _, rfl, _⟩ := h
    rfl
  · obtain ⟨a, C, r, i, rfl, hC, hl, hi, hb, k⟩ := h
    have nd := sc_breaks_rule.nd
    have hne : C ≠ [] := fun e => by subst e; simp at hi
    obtain ⟨ps, h1, h2, h3⟩ := hC.len
    obtain ⟨p, e, t⟩ := h3 i hne
    rw [Nat.mod_eq_of_lt hi] at e
    refine ⟨_, (pss_cons (ps_if (pt_cmpR op_eq (pv 1) pe_int (nomark _)) (pss_one (ps_ret (pe_not (pe_callD D_is_corner hr (pa_cons (pe_ix ix_list (pv 0) (pv 2) (fun _ _ => rfl)) pa_nil))))) pss_nil)
      (pss_cons (ps_if (pt_cmpR op_eq (pv 1) pe_int (nomark _)) (pss_one (ps_ret (pe_not (pe_callD D_runs_in_a_direction hr (pa_cons (pv 0) (pa_cons (pv 2) pa_nil)))))) pss_nil)
      (pss_cons (ps_if (pt_cmpR op_eq (pv 1) pe_int (nomark _)) (pss_one (ps_ret (pe_callD D_goes_straight_on hr (pa_cons (pv 0) (pa_cons (pv 2) pa_nil))))) pss_nil)
      (pss_one (ps_ret (pe_callD D_meets_a_later_line hr (pa_cons (pv 0) (pa_cons (pv 2) pa_nil)))))))), ?_⟩
    refine ⟨_, rfl, rfl, _, rfl, ?_⟩
    refine ite2 (fun c => ?_) (fun c => ?_)
    · have c : r = 3 := by
        have c : (r : Int) = 3 := by simpa using c
        omega
      refine ⟨_, rfl, _, rfl, a, _, _, _, rfl, rfl, SqL.of h1, atI_nat e, p, _, rfl, t, fun v H1 hv s1 => ⟨_, rfl, k _ _ ?_ s1⟩⟩
      unfold brk
      rw [if_pos c]
      cases v <;> simp at hv ⊢ <;> simpa [okTri] using hv
    · have c : ¬ r = 3 := by
        have c : ¬ (r : Int) = 3 := by simpa using c
        omega
      refine ⟨_, rfl, rfl, _, rfl, ?_⟩
      refine ite2 (fun d => ?_) (fun d => ?_)
      · have d : r = 4 := by
          have d : (r : Int) = 4 := by simpa using d
          omega
        refine ⟨_, rfl, _, rfl, a, C, i, rfl, hC.cs, hne, fun v H1 hv s1 => ⟨_, rfl, k _ _ ?_ s1⟩⟩
        unfold brk
        rw [if_neg c, if_pos d]
        unfold dirM
        rw [← hv]
        cases v <;> simp
      · have d : ¬ r = 4 := by
          have d : ¬ (r : Int) = 4 := by simpa using d
          omega
        refine ⟨_, rfl, rfl, _, rfl, ?_⟩
        refine ite2 (fun g => ?_) (fun g => ?_)
        · have g : r = 5 := by
            have g : (r : Int) = 5 := by simpa using g
            omega
          refine ⟨_, rfl, _, rfl, a, C, i, rfl, hC.cs, hne, hb, fun v H1 hv s1 => k _ _ ?_ s1⟩
          unfold brk
          rw [if_neg c, if_neg d, if_pos g]
          exact hv
        · have g : ¬ r = 5 := by
            have g : ¬ (r : Int) = 5 := by simpa using g
            omega
          refine ⟨_, rfl, _, rfl, a, C, i, rfl, hC.cs, hne, hl, by omega, hb, fun v H1 hv s1 => k _ _ ?_ s1⟩
          unfold brk
          rw [if_neg c, if_neg d, if_neg g]
          exact hv
def areaTo (C : List Tri) : Nat → Int
  | 0 => 0
  | i + 1 => areaTo C i + (atC C i).1 * (atC C (i + 1)).2.1 - (atC C (i + 1)).1 * (atC C i).2.1
def spArea : Sp := fun vs H Q _ => ∃ (a : Addr) (C : List Tri), vs = [.ref a] ∧ CsAt H a C ∧ C ≠ [] ∧ C.length < 1000 ∧ (∀ c ∈ C, Bd c) ∧ ∀ H', Same H H' → Q (.int (areaTo C C.length)) H'
theorem m64 {a b : Int} (ha : a.natAbs ≤ 2 ^ 63) (hb : b.natAbs ≤ 2 ^ 63) : CMulB a b := mulOk (m := 64) (n := 64) (by omega) (by omega) (by decide)
theorem sc_measure_twice : FnScope ["corners", "area", "line", "ends"] ["corners"] (defScope s_measure_twice) := ⟨rfl, rfl, rfl, by decide +kernel, rfl, by decide +kernel, by decide +kernel⟩
theorem ok_measure_twice (F : At K mg "measure_twice" s_measure_twice ["corners"]) (T : Txt mg) (D_find_ends : Def P w K mg base "find_ends" 1 ["corners", "line"] spEnds) : Def P w K mg base "measure_twice" 2 ["corners"] spArea := by
  refine F.ok sc_measure_twice (fun vs H Q E h => ?_) (fun f cdv A outer s H vs Q E hr h => ?_)
  · obtain ⟨_, _, rfl, _⟩ := h
    rfl
  · obtain ⟨a, C, rfl, hC, hne, hl, hb, k⟩ := h
    have nd := sc_measure_twice.nd
    obtain ⟨ps, h1, h2, _⟩ := hC.len
    refine ⟨_, (pss_cons (ps_set (i := 1) nd rfl (Or.inl rfl) pe_int)
      (pss_cons (ps_for PassesOwn.never rfl (pi_range1 (by rfl) T.b_range (pa_cons (pe_callB call_len_seq (by rfl) T.b_len bt_len (pa_cons (pv 0) pa_nil)) pa_nil)) (pg_name (i := 2) nd rfl (Or.inl rfl)) (pss_cons (ps_set (i := 3) nd rfl (Or.inl rfl) (pe_callD D_find_ends hr (pa_cons (pv 0) (pa_cons (pv 2) pa_nil))))
      (pss_one (ps_set (i := 1) nd rfl (Or.inl rfl) (pe_op op_sub (pe_op op_add (pv 1) (pe_op op_mulB (pe_ix ix_tup (pe_ix ix_tup (pv 3) pe_int (fun _ _ => rfl)) pe_int (fun _ _ => rfl)) (pe_ix ix_tup (pe_ix ix_tup (pv 3) pe_int (fun _ _ => rfl)) pe_int (fun _ _ => rfl)))) (pe_op op_mulB (pe_ix ix_tup (pe_ix ix_tup (pv 3) pe_int (fun _ _ => rfl)) pe_int (fun _ _ => rfl)) (pe_ix ix_tup (pe_ix ix_tup (pv 3) pe_int (fun _ _ => rfl)) pe_int (fun _ _ => rfl))))))))
      (pss_one (ps_ret (pv 1))))), ?_⟩
    refine ⟨_, rfl, a, _, rfl, .inl (SqL.of h1), _, rfl, (by omega), (by omega), ?_⟩
    refine for_range (lo := 0) (n := (((ps.map V.ref).length : Nat) : Int).toNat)
      (fun m σ H' => ∃ v1 v2 : Option V, σ = [some (.ref a), some (.int (areaTo C m)), v1, v2] ∧ Same H H') ⟨none, none, rfl, Same.refl H⟩ ?_ ?_
    · rintro m σ H1 hm ⟨v1, v2, rfl, s1⟩
      have ej : (0 : Int) + (m : Int) = (m : Int) := by omega
      rw [ej]
      refine ⟨_, rfl, _, rfl, a, C, m, rfl, hC.same s1, hne, fun H2 p s2 hE => ?_⟩
      obtain ⟨q1, q2, ef, ⟨_, ta⟩, ⟨_, tb⟩⟩ := hE
      have b1 := atC_bd hb m
      have b2 := atC_bd hb (m + 1)
      refine ⟨_, rfl, _, rfl, p, _, _, _, rfl, rfl, SqT.of ef, rfl, q1, _, _, _, rfl, rfl, SqT.of ta, at0, _, rfl, p, _, _, _, rfl, rfl, SqT.of ef, rfl, q2, _, _, _, rfl, rfl, SqT.of tb, at1, _, _, rfl, rfl, m64 b1.1 b2.2, _, _, rfl, rfl, ?_⟩
      refine ⟨_, rfl, p, _, _, _, rfl, rfl, SqT.of ef, rfl, q2, _, _, _, rfl, rfl, SqT.of tb, at0, _, rfl, p, _, _, _, rfl, rfl, SqT.of ef, rfl, q1, _, _, _, rfl, rfl, SqT.of ta, at1, _, _, rfl, rfl, m64 b2.1 b1.2, _, _, rfl, rfl, ?_⟩
      exact ⟨_, _, rfl, s1.trans s2⟩
    · rintro σ H1 ⟨v1, v2, rfl, s1⟩
      have e : (((ps.map V.ref).length : Nat) : Int).toNat = C.length := by omega
      rw [e]
      exact ⟨_, rfl, k _ s1⟩
def triOf (ns : List Int) (i : Nat) : Tri := (ns.getD (3 * i + 3) 0, ns.getD (3 * i + 4) 0, ns.getD (3 * i + 5) 0)
def trisOf (ns : List Int) : List Tri := (List.range (ns.length / 3 - 1)).map (triOf ns)
def spCorners (K : PySem.W.Frag) : Sp := fun vs H Q _ => ∃ (a : Addr) (ns : List Int), vs = [.ref a] ∧ SqL K H a (ns.map V.int) ∧ ns.length % 3 = 0 ∧ 3 ≤ ns.length ∧ ns.length ≤ 300 ∧ ∀ H' p, Same H H' → CtAt H' p (trisOf ns) → Q (.ref p) H'
theorem sc_list_corners : FnScope ["room", "place"] ["room"] (defScope s_list_corners) := ⟨rfl, rfl, rfl, by decide +kernel, rfl, by decide +kernel, by decide +kernel⟩
theorem ok_list_corners (F : At K mg "list_corners" s_list_corners ["room"]) (T : Txt mg) : Def P w K mg base "list_corners" 1 ["room"] (spCorners K) := by
  refine F.ok sc_list_corners (fun vs H Q E h => ?_) (fun f cdv A outer s H vs Q E hr h => ?_)
  · obtain ⟨_, _, rfl, _⟩ := h
    rfl
  · obtain ⟨a, ns, rfl, hS, h3, hl, hm, k⟩ := h
    have nd := sc_list_corners.nd
    refine ⟨_, (pss_one (ps_ret (pe_lc rfl nd (pi_range3 (by rfl) T.b_range (pa_cons pe_int (pa_cons (pe_callB call_len_seq (by rfl) T.b_len bt_len (pa_cons (pv 0) pa_nil)) (pa_cons pe_int pa_nil)))) (blkOk_by (own := [("place", 1)]) (by show blkC ["room", "place"] (defScope s_list_corners) _ _ = true; decide +kernel)) (fun _ _ _ _ _ => (pg_name (i := 1) nd rfl (Or.inl rfl))) (fun _ _ _ _ _ => pts_nil) (fun _ _ _ _ _ => (pe_tup (pa_cons (pe_ix (show IxR _ (rIxL K) from ix_list) (pv 0) (pv 1) (fun _ _ => rfl)) (pa_cons (pe_ix (show IxR _ (rIxL K) from ix_list) (pv 0) (pe_op op_add (pv 1) pe_int) (fun _ _ => rfl)) (pa_cons (pe_ix (show IxR _ (rIxL K) from ix_list) (pv 0) (pe_op op_add (pv 1) pe_int) (fun _ _ => rfl)) pa_nil)))))))), ?_⟩
    refine ⟨_, rfl, a, _, rfl, .inl hS, 3, _, 3, ns.length / 3 - 1, rfl, ?_, fun D hD => ?_⟩
    · rw [List.length_map]
      refine rgC (by decide) (by decide) (by decide) (by decide) (by omega) (by omega) ?_
      split <;> omega
    · refine lc_rangeC (fun m H' => ∃ ps : List Addr, ps.length = m ∧ Same H H' ∧ H' D = some (.lst (ps.map V.ref)) ∧ ∀ (j : Nat) p, ps[j]? = some p → TriAt H' p (triOf ns j)) ⟨[], rfl, same_new hD, upd_same, fun j p h => by simp at h⟩ ?_ ?_
      · rintro m H1 hm ⟨ps, hlen, s1, hD1, hps⟩
        have hS1 := s1.seq hS
        refine ⟨rfl, _, rfl, _, rfl, a, _, _, _, rfl, rfl, hS1, at_int (i := 3 * m + 3) (by omega) (by omega), _, rfl, _, rfl, _, _, rfl, rfl, a, _, _, _, rfl, rfl, hS1, at_int (i := 3 * m + 4) (by omega) (by omega), _, rfl, _, rfl, _, _, rfl, rfl, a, _, _, _, rfl, rfl, hS1, at_int (i := 3 * m + 5) (by omega) (by omega), ?_⟩
        refine ⟨(by show 3 ≤ sizeLine; decide), fun p hp => ⟨_, same_new hp _ _ hD1, ?_, ps ++ [p], ?_, ?_, ?_, ?_⟩⟩
        · rw [List.length_map, hlen]
          exact Nat.lt_of_lt_of_le (show m < 300 by omega) (by decide)
        · simp [hlen]
        · exact upd_keep hD (s1.trans (same_new hp))
        · rw [List.map_append]
          exact upd_same
        · intro j q hq
          have hne : ∀ q' c, TriAt (upd H1 p (.tup [.int (triOf ns m).1, .int (triOf ns m).2.1, .int (triOf ns m).2.2])) q' c → q' ≠ D := fun q' c t e => by
            subst e
            have t' : upd H1 p (.tup [.int (triOf ns m).1, .int (triOf ns m).2.1, .int (triOf ns m).2.2]) q' = some (.lst (ps.map V.ref)) := same_new hp _ _ hD1
            have := t.symm.trans t'
            cases this
          have key : TriAt (upd H1 p (.tup [.int (triOf ns m).1, .int (triOf ns m).2.1, .int (triOf ns m).2.2])) q (triOf ns j) := by
            by_cases c : j < ps.length
            · rw [List.getElem?_append_left c] at hq
              exact (hps j q hq).same (same_new hp)
            · have c2 : j = ps.length := by
                have := (List.getElem?_eq_some_iff.mp hq).1
                simp at this
                omega
              subst c2
              simp at hq
              subst hq
              rw [hlen]
              exact upd_same
          show upd _ D _ q = _
          rw [upd_ne (hne q _ key)]
          exact key
      · rintro H1 ⟨ps, hlen, s1, hD1, hps⟩
        refine k _ D s1 ⟨ps, hD1, ?_, ?_⟩
        · unfold trisOf
          rw [hlen]
          simp
        · intro j p c e1 e2
          unfold trisOf at e2
          rw [List.getElem?_map] at e2
          cases e3 : (List.range (ns.length / 3 - 1))[j]? with
          | none => rw [e3] at e2; cases e2
          | some j' =>
            rw [e3] at e2
            have : j' = j := by
              have := List.getElem?_eq_some_iff.mp e3
              obtain ⟨h, e⟩ := this
              simp at e
              exact e.symm
            subst this
            cases e2
            exact hps _ p e1
end
end Gn
set_option Elab.async false
set_option maxRecDepth 100000
set_option maxHeartbeats 4000000
namespace Gn
open PySem PySem.Spec PyProof.Rows L2 Lw
open PySem.W (Codec WData)
section
variable {P : Program} {w : World} {K : PySem.W.Frag} {mg : Str → Option Value} {base : Heap}
def lenOk (ns : List Int) : Prop := ns.length % 3 = 0 ∧ 3 ≤ ns.length / 3 - 1 ∧ ns.length / 3 - 1 ≤ 64
def headOk (ns : List Int) : Prop := (1 ≤ ns.getD 0 0 ∧ ns.getD 0 0 ≤ 4095) ∧ (0 ≤ ns.getD 1 0 ∧ ns.getD 1 0 ≤ 7) ∧ (0 ≤ ns.getD 2 0 ∧ ns.getD 2 0 ≤ 7)
def FaultIs (ns : List Int) (o : Option (Nat × Nat)) : Prop :=
  (¬ lenOk ns ∧ o = some (1, 0)) ∨ (lenOk ns ∧ ¬ headOk ns ∧ o = some (2, 0)) ∨
  (lenOk ns ∧ headOk ns ∧ ∃ r i, 3 ≤ r ∧ r ≤ 6 ∧ i < (trisOf ns).length ∧ brk (trisOf ns) r i ∧ (∀ r' i', 3 ≤ r' → r' < r → i' < (trisOf ns).length → ¬ brk (trisOf ns) r' i') ∧ (∀ i', i' < i → ¬ brk (trisOf ns) r i') ∧ o = some (r, i)) ∨
  (lenOk ns ∧ headOk ns ∧ (∀ r i, 3 ≤ r → r ≤ 6 → i < (trisOf ns).length → ¬ brk (trisOf ns) r i) ∧ ((areaTo (trisOf ns) (trisOf ns).length < 0 ∧ o = some (7, 0)) ∨ (¬ areaTo (trisOf ns) (trisOf ns).length < 0 ∧ o = none)))
def optP (H : Hp) (v : V) : Option (Nat × Nat) → Prop
  | none => v = .non
  | some (r, i) => ∃ p, v = .ref p ∧ H p = some (.tup [.int (r : Int), .int (i : Int)])
def spRoomFault (K : PySem.W.Frag) : Sp := fun vs H Q _ => ∃ (a : Addr) (ns : List Int), vs = [.ref a] ∧ SqL K H a (ns.map V.int) ∧ ns.length ≤ 300 ∧ (∀ x ∈ ns, x.natAbs ≤ 2 ^ 63) ∧ ∀ o v H', FaultIs ns o → optP H' v o → Same H H' → Q v H'
theorem getD_bd {ns : List Int} (h : ∀ x ∈ ns, x.natAbs ≤ 2 ^ 63) (i : Nat) : (ns.getD i 0).natAbs ≤ 2 ^ 63 := by
  rw [List.getD_eq_getElem?_getD]
  cases e : ns[i]? with
  | none => decide
  | some c => exact h c (List.mem_of_getElem? e)
theorem tris_bd {ns : List Int} (h : ∀ x ∈ ns, x.natAbs ≤ 2 ^ 63) : ∀ c ∈ trisOf ns, Bd c := by
  intro c hc
  obtain ⟨i, _, rfl⟩ := List.mem_map.mp hc
  exact ⟨getD_bd h _, getD_bd h _⟩
theorem tris_len (ns : List Int) : (trisOf ns).length = ns.length / 3 - 1 := by simp [trisOf]
theorem rule_at {m : Nat} {x : V} (h : [V.int 3, V.int 4, V.int 5, V.int 6][m]? = some x) : m < 4 ∧ x = .int ((3 + m : Nat) : Int) := by
  match m, h with
  | 0, h => cases h; exact ⟨by decide, rfl⟩
  | 1, h => cases h; exact ⟨by decide, rfl⟩
  | 2, h => cases h; exact ⟨by decide, rfl⟩
  | 3, h => cases h; exact ⟨by decide, rfl⟩
theorem sc_find_room_fault : FnScope ["room", "corners", "rule", "wall"] ["room"] (defScope s_find_room_fault) := ⟨rfl, rfl, rfl, by decide +kernel, rfl, by decide +kernel, by decide +kernel⟩
theorem ok_find_room_fault (F : At K mg "find_room_fault" s_find_room_fault ["room"]) (T : Txt mg) (D_has_right_length : Def P w K mg base "has_right_length" 1 ["room"] (spLenOk K)) (D_has_right_head : Def P w K mg base "has_right_head" 2 ["room"] (spHeadOk K))
    (D_list_corners : Def P w K mg base "list_corners" 1 ["room"] (spCorners K)) (D_breaks_rule : Def P w K mg base "breaks_rule" 5 ["corners", "rule", "wall"] spBrk) (D_measure_twice : Def P w K mg base "measure_twice" 2 ["corners"] spArea) : Def P w K mg base "find_room_fault" 6 ["room"] (spRoomFault K) := by
  refine F.ok sc_find_room_fault (fun vs H Q E h => ?_) (fun f cdv A outer s H vs Q E hr h => ?_)
  · obtain ⟨_, _, rfl, _⟩ := h
    rfl
  · obtain ⟨a, ns, rfl, hS, hl, hb, k⟩ := h
    have nd := sc_find_room_fault.nd
    refine ⟨_, (pss_cons (ps_if (pt_not (pt_val (pe_callD D_has_right_length hr (pa_cons (pv 0) pa_nil)))) (pss_one (ps_ret (pe_tup (pa_cons pe_int (pa_cons pe_int pa_nil))))) pss_nil)
      (pss_cons (ps_if (pt_not (pt_val (pe_callD D_has_right_head hr (pa_cons (pv 0) pa_nil)))) (pss_one (ps_ret (pe_tup (pa_cons pe_int (pa_cons pe_int pa_nil))))) pss_nil)
      (pss_cons (ps_set (i := 1) nd rfl (Or.inl rfl) (pe_callD D_list_corners hr (pa_cons (pv 0) pa_nil)))
      (pss_cons (ps_for PassesOwn.never rfl (pi_tup (pe_tup (pa_cons pe_int (pa_cons pe_int (pa_cons pe_int (pa_cons pe_int pa_nil)))))) (pg_name (i := 2) nd rfl (Or.inl rfl)) (pss_one (ps_for PassesOwn.never rfl (pi_range1 (by rfl) T.b_range (pa_cons (pe_callB call_len_seq (by rfl) T.b_len bt_len (pa_cons (pv 1) pa_nil)) pa_nil)) (pg_name (i := 3) nd rfl (Or.inl rfl)) (pss_one (ps_if (pt_val (pe_callD D_breaks_rule hr (pa_cons (pv 1) (pa_cons (pv 2) (pa_cons (pv 3) pa_nil))))) (pss_one (ps_ret (pe_tup (pa_cons (pv 2) (pa_cons (pv 3) pa_nil))))) pss_nil)))))
      (pss_cons (ps_if (pt_cmpR op_lt (pe_callD D_measure_twice hr (pa_cons (pv 1) pa_nil)) pe_int (nomark _)) (pss_one (ps_ret (pe_tup (pa_cons pe_int (pa_cons pe_int pa_nil))))) pss_nil)
      (pss_one (ps_ret pe_non))))))), ?_⟩
    refine ⟨_, rfl, a, _, rfl, hS, fun b1 H1 h1 s1 => ⟨_, rfl, ?_⟩⟩
    rw [List.length_map] at h1
    cases b1 with
    | false =>
      have g : ¬ lenOk ns := fun q => by have := h1.mpr q; cases this
      refine ⟨(by show 2 ≤ sizeLine; decide), fun p hp => ?_⟩
      exact k (some (1, 0)) _ _ (.inl ⟨g, rfl⟩) ⟨p, rfl, upd_same⟩ (s1.trans (same_new hp))
    | true =>
      have g1 : lenOk ns := h1.mp rfl
      refine ⟨_, rfl, a, _, rfl, s1.seq hS, (by have := g1.2.1; omega), fun b2 H2 h2 s2 => ⟨_, rfl, ?_⟩⟩
      cases b2 with
      | false =>
        have g : ¬ headOk ns := fun q => by have := h2.mpr q; cases this
        refine ⟨(by show 2 ≤ sizeLine; decide), fun p hp => ?_⟩
        exact k (some (2, 0)) _ _ (.inr (.inl ⟨g1, g, rfl⟩)) ⟨p, rfl, upd_same⟩ (s1.trans (s2.trans (same_new hp)))
      | true =>
        have g2 : headOk ns := h2.mp rfl
        have bd := tris_bd hb
        have tl := tris_len ns
        refine ⟨_, rfl, a, ns, rfl, (s1.trans s2).seq hS, g1.1, (by have := g1.2.1; omega), hl, fun H3 c s3 hC => ?_⟩
        refine ⟨(by show 4 ≤ sizeLine; decide), fun t ht => ⟨t, rfl, ⟨_, SqT.of upd_same⟩, ?_⟩⟩
        have sc : Same H (upd H3 t (.tup [.int 3, .int 4, .int 5, .int 6])) := (s1.trans (s2.trans s3)).trans (same_new ht)
        have hC := hC.same (same_new (o := .tup [.int 3, .int 4, .int 5, .int 6]) ht)
        have hT : upd H3 t (.tup [.int 3, .int 4, .int 5, .int 6]) t = some (.tup [.int 3, .int 4, .int 5, .int 6]) := upd_same
        generalize upd H3 t (.tup [.int 3, .int 4, .int 5, .int 6]) = HT at sc hC hT
        have hne : trisOf ns ≠ [] := fun e => by
          have : (trisOf ns).length = 0 := by rw [e]; rfl
          have := g1.2.1
          omega
        have hlt : (trisOf ns).length < 1000 := by omega
        obtain ⟨ps, h1, h2, _⟩ := hC.len
        refine for_tup (K := K) (a := t) (xs := [.int 3, .int 4, .int 5, .int 6]) (fun m σ H' => ∃ v1 v2 : Option V, σ = [some (.ref a), some (.ref c), v1, v2] ∧ Same HT H' ∧ ∀ r' i', 3 ≤ r' → r' < 3 + m → i' < (trisOf ns).length → ¬ brk (trisOf ns) r' i')
          ⟨none, none, rfl, Same.refl _, fun r' i' x y => absurd y (by omega)⟩ (fun m σ H' _ ⟨_, _, _, s5, _⟩ => SqT.of (s5 _ _ hT)) ?_ ?_
        · rintro m x σ H4 hx ⟨v1, v2, rfl, s4, hn⟩
          obtain ⟨hm, rfl⟩ := rule_at hx
          refine ⟨_, rfl, c, _, rfl, .inl (SqL.of (s4 _ _ h1)), _, rfl, (by omega), (by omega), ?_⟩
          refine for_range (lo := 0) (n := (((ps.map V.ref).length : Nat) : Int).toNat)
            (fun m2 σ H' => ∃ v2 : Option V, σ = [some (.ref a), some (.ref c), some (.int ((3 + m : Nat) : Int)), v2] ∧ Same HT H' ∧ ∀ i', i' < m2 → ¬ brk (trisOf ns) (3 + m) i') ⟨_, rfl, s4, fun i' x => absurd x (by omega)⟩ ?_ ?_
          · rintro i σ H5 hi ⟨v3, rfl, s5, hn2⟩
            have ej : (0 : Int) + (i : Int) = (i : Int) := by omega
            rw [ej]
            have hi : i < (trisOf ns).length := by omega
            refine ⟨_, rfl, _, rfl, _, rfl, c, trisOf ns, 3 + m, i, rfl, hC.same s5, hlt, hi, bd, fun b H6 h6 s6 => ⟨_, rfl, ?_⟩⟩
            refine ite2 (fun g => ?_) (fun g => ?_)
            · refine ⟨_, rfl, _, rfl, (by show 2 ≤ sizeLine; decide), fun p hp => ?_⟩
              exact k (some (3 + m, i)) _ _ (.inr (.inr (.inl ⟨g1, g2, 3 + m, i, by omega, by omega, hi, h6.mp g, hn, hn2, rfl⟩))) ⟨p, rfl, upd_same⟩ (sc.trans (s5.trans (s6.trans (same_new hp))))
            · refine ⟨_, rfl, s5.trans s6, fun i' hi' => ?_⟩
              rcases Nat.lt_succ_iff_lt_or_eq.mp hi' with q | q
              · exact hn2 i' q
              · subst q
                exact fun z => g (h6.mpr z)
          · rintro σ H5 ⟨v3, rfl, s5, hn2⟩
            refine ⟨_, _, rfl, s5, fun r' i' x y z => ?_⟩
            rcases Nat.lt_or_ge r' (3 + m) with q | q
            · exact hn r' i' x q z
            · have e : r' = 3 + m := by omega
              subst e
              exact hn2 i' (by omega)
        · rintro σ H4 ⟨v1, v2, rfl, s4, hn⟩
          have hn : ∀ r i, 3 ≤ r → r ≤ 6 → i < (trisOf ns).length → ¬ brk (trisOf ns) r i := fun r i x y z => hn r i x (by show r < 3 + 4; omega) z
          refine ⟨_, rfl, c, _, rfl, (hC.same s4).cs, hne, hlt, bd, fun H5 s5 => ⟨_, _, rfl, rfl, _, rfl, ?_⟩⟩
          refine ite2 (fun g => ?_) (fun g => ?_)
          · have g : areaTo (trisOf ns) (trisOf ns).length < 0 := by simpa using g
            refine ⟨(by show 2 ≤ sizeLine; decide), fun p hp => ?_⟩
            exact k (some (7, 0)) _ _ (.inr (.inr (.inr ⟨g1, g2, hn, .inl ⟨g, rfl⟩⟩))) ⟨p, rfl, upd_same⟩ (sc.trans (s4.trans (s5.trans (same_new hp))))
          · have g : ¬ areaTo (trisOf ns) (trisOf ns).length < 0 := by simpa using g
            exact k none _ _ (.inr (.inr (.inr ⟨g1, g2, hn, .inr ⟨g, rfl⟩⟩))) rfl (sc.trans (s4.trans s5))
end
end Gn
set_option Elab.async false
set_option maxRecDepth 100000
set_option maxHeartbeats 4000000
namespace Gn
open PySem PySem.Spec PyProof.Rows L2 Lw
open PySem.W (Codec WData)
section
variable {P : Program} {w : World} {K : PySem.W.Frag} {mg : Str → Option Value} {base : Heap}
def bookFault (ns : List Int) : Option Nat := if ns.length ≠ 36 then some ns.length else ns.findIdx? fun x => decide (32768 < x)
theorem find_at {ns : List Int} {i : Nat} {z : Int} (hz : ns[i]? = some z) (c : 32768 < z) (hb : ∀ j x, j < i → ns[j]? = some x → ¬ 32768 < x) : (ns.findIdx? fun x => decide (32768 < x)) = some i := by
  rw [List.findIdx?_eq_some_iff_getElem]
  obtain ⟨h, e⟩ := List.getElem?_eq_some_iff.mp hz
  refine ⟨h, by rw [e]; exact decide_eq_true c, fun j hj => ?_⟩
  have := hb j _ hj (List.getElem?_eq_getElem (Nat.lt_trans hj h))
  simpa using this
theorem find_no {ns : List Int} (hb : ∀ j x, j < ns.length → ns[j]? = some x → ¬ 32768 < x) : (ns.findIdx? fun x => decide (32768 < x)) = none := by
  rw [List.findIdx?_eq_none_iff]
  intro x hx
  obtain ⟨j, hj, e⟩ := List.mem_iff_getElem.mp hx
  have := hb j x hj (by rw [List.getElem?_eq_getElem hj, e])
  simpa using this
def optV : Option Nat → V
  | none => .non
  | some n => .int n
def spFault (K : PySem.W.Frag) : Sp := fun vs H Q _ => ∃ (a : Addr) (ns : List Int), vs = [.ref a] ∧ SqL K H a (ns.map V.int) ∧ ∀ H', Same H H' → Q (optV (bookFault ns)) H'
theorem sc_find_book_fault : FnScope ["book", "place", "part"] ["book"] (defScope s_find_book_fault) := ⟨rfl, rfl, rfl, by decide +kernel, rfl, by decide +kernel, by decide +kernel⟩
theorem ok_find_book_fault (F : At K mg "find_book_fault" s_find_book_fault ["book"]) (T : Txt mg) : Def P w K mg base "find_book_fault" 1 ["book"] (spFault K) := by
  refine F.ok sc_find_book_fault (fun vs H Q E h => ?_) (fun f cdv A outer s H vs Q E hr h => ?_)
  · obtain ⟨a, ns, rfl, _⟩ := h
    rfl
  · obtain ⟨a, ns, rfl, hS, k⟩ := h
    have nd := sc_find_book_fault.nd
    refine ⟨_, (pss_cons (ps_if (pt_cmpR op_ne (pe_callB call_len_seq (by rfl) T.b_len bt_len (pa_cons (pv 0) pa_nil)) (pe_gE (by rfl) T.c_BOOK_LENGTH) (nomark _)) (pss_one (ps_ret (pe_callB call_len_seq (by rfl) T.b_len bt_len (pa_cons (pv 0) pa_nil)))) pss_nil)
      (pss_cons (ps_for PassesOwn.never rfl (pi_enum (by rfl) T.b_enumerate (pa_cons (pv 0) pa_nil)) (pg_tup rfl (pgs_cons (pg_name (i := 1) nd rfl (Or.inl rfl)) (pgs_cons (pg_name (i := 2) nd rfl (Or.inl rfl)) pgs_nil))) (pss_one (ps_if (pt_cmpR op_gt (pv 2) (pe_gE (by rfl) T.c_WHOLE_PART) (nomark _)) (pss_one (ps_ret (pv 1))) pss_nil)))
      (pss_one (ps_ret pe_non)))), ?_⟩
    refine ⟨_, rfl, a, _, rfl, .inl hS, rfl, _, rfl, ?_⟩
    rw [List.length_map]
    refine ite2 (fun c => ?_) (fun c => ?_)
    · refine ⟨_, rfl, a, _, rfl, .inl hS, ?_⟩
      rw [List.length_map]
      have e : bookFault ns = some ns.length := if_pos (by intro z; rw [z] at c; simp at c)
      have := k H (Same.refl H)
      rw [e] at this
      exact this
    · have c : ns.length = 36 := by
        have c : (ns.length : Int) = 36 := by simpa using c
        omega
      have e : bookFault ns = ns.findIdx? fun x => decide (32768 < x) := if_neg (by rw [c]; decide)
      rw [e] at k
      refine ⟨_, rfl, a, _, rfl, hS, for_enum (K := K) (a := a) (xs := ns.map V.int)
        (fun i σ H' => ∃ v1 v2 : Option V, σ = [some (.ref a), v1, v2] ∧ Same H H' ∧ ∀ j x, j < i → ns[j]? = some x → ¬ 32768 < x) ⟨none, none, rfl, Same.refl H, fun j x hj _ => absurd hj (Nat.not_lt_zero j)⟩ (fun i σ H' _ ⟨_, _, _, s5, _⟩ => s5.seq hS) ?_ ?_⟩
      · rintro i y σ H' T' hi ⟨v1, v2, rfl, s5, hb⟩ hT
        obtain ⟨z, hz, rfl⟩ := int_at hi
        refine ⟨T', _, rfl, SqT.of upd_same, rfl, _, _, rfl, _, _, rfl, rfl, ?_⟩
        refine ⟨_, rfl, _, _, rfl, rfl, _, rfl, ?_⟩
        have s6 : Same H (upd H' T' (.tup [.int (i : Nat), .int z])) := s5.trans (same_new hT)
        refine ite2 (fun c => ?_) (fun c => ?_)
        · refine ⟨_, rfl, ?_⟩
          have e : (ns.findIdx? fun x => decide (32768 < x)) = some i := find_at hz (by simpa using c) hb
          rw [e] at k
          exact k _ s6
        · refine ⟨_, _, rfl, s6, fun j x hj hx => ?_⟩
          rcases Nat.lt_succ_iff_lt_or_eq.mp hj with q | q
          · exact hb j x q hx
          · subst q
            rw [hz] at hx
            cases hx
            simpa using c
      · rintro σ H' ⟨v1, v2, rfl, s5, hb⟩
        have e : (ns.findIdx? fun x => decide (32768 < x)) = none := find_no (by rw [List.length_map] at hb; exact hb)
        rw [e] at k
        exact k H' s5
def spRoot : Sp := fun vs H Q _ => ∃ n : Nat, vs = [.int (n : Int)] ∧ n < 2 ^ 200 ∧ ∀ H', Same H H' → Q (.int (Eh.root n : Nat)) H'
theorem step_bits {s : Nat} (h : s ≤ 2 ^ 100) : ((s : Nat) : Int).natAbs < 2 ^ 101 := by
  rw [Int.natAbs_natCast]
  omega
theorem sc_find_root : FnScope ["number", "step", "root"] ["number"] (defScope s_find_root) := ⟨rfl, rfl, rfl, by decide +kernel, rfl, by decide +kernel, by decide +kernel⟩
theorem ok_find_root (F : At K mg "find_root" s_find_root ["number"]) (T : Txt mg) : Def P w K mg base "find_root" 1 ["number"] spRoot := by
  refine F.ok sc_find_root (fun vs H Q E h => ?_) (fun f cdv A outer s H vs Q E hr h => ?_)
  · obtain ⟨_, rfl, _⟩ := h
    rfl
  · obtain ⟨n, rfl, hn, k⟩ := h
    have nd := sc_find_root.nd
    refine ⟨_, (pss_cons (ps_set (i := 1) nd rfl (Or.inl rfl) pe_int)
      (pss_cons (ps_while PassesOwn.never (pt_cmpR op_le (pe_op op_mulB (pv 1) (pv 1)) (pv 0) (nomark _)) (pss_one (ps_set (i := 1) nd rfl (Or.inl rfl) (pe_op op_mulB (pv 1) pe_int))))
      (pss_cons (ps_set (i := 2) nd rfl (Or.inl rfl) pe_int)
      (pss_cons (ps_while PassesOwn.never (pt_cmpR op_gt (pv 1) pe_int (nomark _)) (pss_cons (ps_if (pt_cmpR op_le (pe_op op_mulB (pe_op op_add (pv 2) (pv 1)) (pe_op op_add (pv 2) (pv 1))) (pv 0) (nomark _)) (pss_one (ps_set (i := 2) nd rfl (Or.inl rfl) (pe_op op_add (pv 2) (pv 1)))) pss_nil)
      (pss_one (ps_set (i := 1) nd rfl (Or.inl rfl) (pe_op op_fdivB (pv 1) pe_int)))))
      (pss_one (ps_ret (pv 2))))))), ?_⟩
    refine ⟨fun m σ H' => ∃ j, m = 100 - j ∧ j ≤ 100 ∧ σ = [some (.int (n : Int)), some (.int ((2 ^ j : Nat) : Int)), none] ∧ Same H H', ⟨100, 0, rfl, by decide, rfl, Same.refl H⟩, ?_⟩
    rintro m σ H1 ⟨j, rfl, hj, rfl, s1⟩
    have sb : (2 : Nat) ^ j ≤ 2 ^ 100 := Nat.pow_le_pow_right (by decide) hj
    refine ⟨_, rfl, _, rfl, _, _, rfl, rfl, mulOk (step_bits sb) (step_bits sb) (by decide), _, rfl, _, _, rfl, rfl, _, rfl, ?_⟩
    refine ite2 (fun c => ?_) (fun c => ?_)
    · have c : 2 ^ j * 2 ^ j ≤ n := by
        have c : ((2 ^ j : Nat) : Int) * ((2 ^ j : Nat) : Int) ≤ (n : Int) := by simpa using c
        exact_mod_cast c
      have hj2 : j < 100 := by
        rcases Nat.lt_or_ge j 100 with q | q
        · exact q
        · have e : j = 100 := by omega
          subst e
          have : 2 ^ 100 * 2 ^ 100 = 2 ^ 200 := by decide
          omega
      refine ⟨fun σ' H' => ∃ m', m' < 100 - j ∧ ∃ j', m' = 100 - j' ∧ j' ≤ 100 ∧ σ' = [some (.int (n : Int)), some (.int ((2 ^ j' : Nat) : Int)), none] ∧ Same H H', fun _ _ h => h, ?_⟩
      refine ⟨_, rfl, _, _, rfl, rfl, mulOk (step_bits sb) (show (2 : Int).natAbs < 2 ^ 2 by decide) (by decide), ?_⟩
      refine ⟨100 - (j + 1), by omega, j + 1, rfl, hj2, ?_, s1⟩
      have e : ((2 ^ j : Nat) : Int) * 2 = ((2 ^ (j + 1) : Nat) : Int) := by
        rw [Nat.pow_succ]
        simp
      rw [← e]
      rfl
    · have c : n < 2 ^ j * 2 ^ j := by
        have c : ¬ ((2 ^ j : Nat) : Int) * ((2 ^ j : Nat) : Int) ≤ (n : Int) := by simpa using c
        have c : ¬ (2 ^ j * 2 ^ j) ≤ n := fun q => c (by exact_mod_cast q)
        omega
      refine ⟨fun m σ H' => ∃ st rt : Nat, (st = 0 ∧ m = 0 ∨ ∃ i, st = 2 ^ i ∧ i ≤ 100 ∧ m = i + 1) ∧ σ = [some (.int (n : Int)), some (.int (st : Int)), some (.int (rt : Int))] ∧ Same H H' ∧ rt * rt ≤ n ∧ n < (rt + (if st = 0 then 1 else 2 * st)) * (rt + (if st = 0 then 1 else 2 * st)),
        ⟨j + 1, 2 ^ j, 0, .inr ⟨j, rfl, hj, rfl⟩, rfl, s1, by simp, ?_⟩, ?_⟩
      · have p : 0 < 2 ^ j := Nat.pow_pos (by decide)
        rw [if_neg (by omega)]
        refine Nat.lt_of_lt_of_le c (Nat.mul_le_mul ?_ ?_) <;> omega
      · rintro m σ H2 ⟨st, rt, hst, rfl, s2, h1, h2⟩
        have hst100 : st ≤ 2 ^ 100 := by
          rcases hst with ⟨z, _⟩ | ⟨i, rfl, hi, _⟩
          · omega
          · exact Nat.pow_le_pow_right (by decide) hi
        have hrt : rt < 2 ^ 100 := by
          rcases Nat.lt_or_ge rt (2 ^ 100) with q | q
          · exact q
          · have := Nat.mul_le_mul q q
            have e : 2 ^ 100 * 2 ^ 100 = 2 ^ 200 := by decide
            omega
        refine ⟨_, rfl, _, _, rfl, rfl, _, rfl, ?_⟩
        refine ite2 (fun d => ?_) (fun d => ?_)
        · have d : 0 < st := by
            have d : (0 : Int) < (st : Int) := by simpa using d
            omega
          obtain ⟨i, rfl, hi, rfl⟩ : ∃ i, st = 2 ^ i ∧ i ≤ 100 ∧ m = i + 1 := by
            rcases hst with ⟨z, _⟩ | q
            · omega
            · exact q
          rw [if_neg (by omega)] at h2
          refine ⟨fun σ' H' => ∃ m', m' < i + 1 ∧ ∃ st rt : Nat, (st = 0 ∧ m' = 0 ∨ ∃ i, st = 2 ^ i ∧ i ≤ 100 ∧ m' = i + 1) ∧ σ' = [some (.int (n : Int)), some (.int (st : Int)), some (.int (rt : Int))] ∧ Same H H' ∧ rt * rt ≤ n ∧ n < (rt + (if st = 0 then 1 else 2 * st)) * (rt + (if st = 0 then 1 else 2 * st)), fun _ _ h => h, ?_⟩
          have sb : ((rt : Int) + ((2 ^ i : Nat) : Int)).natAbs < 2 ^ 102 := by omega
          have e2 : ((2 ^ i : Nat) : Int) / 2 = ((2 ^ i / 2 : Nat) : Int) := by omega
          have next : ∀ (r : Nat) (H3 : Hp), Same H H3 → r * r ≤ n → n < (r + 2 ^ i) * (r + 2 ^ i) → ∃ m', m' < i + 1 ∧ ∃ st rt : Nat, (st = 0 ∧ m' = 0 ∨ ∃ i, st = 2 ^ i ∧ i ≤ 100 ∧ m' = i + 1) ∧ [some (V.int (n : Int)), some (.int (((2 ^ i : Nat) : Int) / 2)), some (.int (r : Int))] = [some (.int (n : Int)), some (.int (st : Int)), some (.int (rt : Int))] ∧ Same H H3 ∧ rt * rt ≤ n ∧ n < (rt + (if st = 0 then 1 else 2 * st)) * (rt + (if st = 0 then 1 else 2 * st)) := fun r H3 s3 a b => by
            refine ⟨i, by omega, 2 ^ i / 2, r, ?_, ?_, s3, a, ?_⟩
            · cases i with
              | zero => exact .inl ⟨by decide, rfl⟩
              | succ i => exact .inr ⟨i, by rw [Nat.pow_succ]; omega, by omega, rfl⟩
            · rw [← e2]
            · cases i with
              | zero => exact b
              | succ i =>
                have p : 0 < 2 ^ i := Nat.pow_pos (by decide)
                have e : 2 ^ (i + 1) / 2 = 2 ^ i := by rw [Nat.pow_succ]; omega
                rw [e, if_neg (by omega)]
                have e3 : 2 * 2 ^ i = 2 ^ (i + 1) := by rw [Nat.pow_succ]; omega
                rw [e3]
                exact b
          refine ⟨_, rfl, _, rfl, _, _, rfl, rfl, _, rfl, _, rfl, _, _, rfl, rfl, _, _, rfl, rfl, mulOk sb sb (by decide), _, rfl, _, _, rfl, rfl, _, rfl, ?_⟩
          refine ite2 (fun g => ?_) (fun g => ?_)
          · have g : (rt + 2 ^ i) * (rt + 2 ^ i) ≤ n := by
              have g : ((rt : Int) + ((2 ^ i : Nat) : Int)) * ((rt : Int) + ((2 ^ i : Nat) : Int)) ≤ (n : Int) := by simpa using g
              exact_mod_cast g
            refine ⟨_, rfl, _, rfl, _, _, rfl, rfl, ?_⟩
            refine ⟨_, rfl, _, _, rfl, rfl, ⟨by decide, PyProof.noPylong_small (by decide)⟩, ?_⟩
            refine next (rt + 2 ^ i) _ s2 g ?_
            have : rt + 2 ^ i + 2 ^ i = rt + 2 * 2 ^ i := by omega
            rw [this]
            exact h2
          · have g : n < (rt + 2 ^ i) * (rt + 2 ^ i) := by
              have g : ¬ ((rt : Int) + ((2 ^ i : Nat) : Int)) * ((rt : Int) + ((2 ^ i : Nat) : Int)) ≤ (n : Int) := by simpa using g
              have g : ¬ (rt + 2 ^ i) * (rt + 2 ^ i) ≤ n := fun q => g (by exact_mod_cast q)
              omega
            exact ⟨_, rfl, _, _, rfl, rfl, ⟨by decide, PyProof.noPylong_small (by decide)⟩, next rt _ s2 h1 g⟩
        · have d : st = 0 := by
            have d : ¬ (0 : Int) < (st : Int) := by simpa using d
            omega
          subst d
          rw [if_pos rfl] at h2
          refine ⟨_, rfl, ?_⟩
          rw [← Wm.root_unique h1 h2]
          exact k _ s2
end
end Gn
set_option Elab.async false
set_option maxRecDepth 100000
set_option maxHeartbeats 4000000
namespace Gn
open PySem PySem.Spec PyProof.Rows L2 Lw
open PySem.W (Codec WData)
theorem noPylong_ratio {x y : Nat} (hy : 0 < y) (h : x < 2 ^ 4000 * y) : Builtin.divisionGoesByPylong (x : Int) (y : Int) = false := by
  have key : (if ((x : Nat) : Int) == 0 then 0 else ((x : Nat) : Int).natAbs.log2 / 30 + 1) ≤ (if ((y : Nat) : Int) == 0 then 0 else ((y : Nat) : Int).natAbs.log2 / 30 + 1) + 150 := by
    by_cases hx : (((x : Nat) : Int) == 0) = true
    · rw [if_pos hx]; exact Nat.zero_le _
    · rw [if_neg hx, if_neg (by simp; omega), Int.natAbs_natCast, Int.natAbs_natCast]
      have hx0 : x ≠ 0 := by intro e; subst e; simp at hx
      have a : y < 2 ^ (y.log2 + 1) := Nat.lt_log2_self
      have b : x < 2 ^ (4000 + (y.log2 + 1)) := by
        rw [Nat.pow_add]
        exact Nat.lt_trans h (Nat.mul_lt_mul_of_pos_left a (Nat.pow_pos (by decide)))
      have c := (Nat.log2_lt hx0).mpr b
      omega
  show (_ && decide ((if ((x : Nat) : Int) == 0 then 0 else ((x : Nat) : Int).natAbs.log2 / 30 + 1) > (if ((y : Nat) : Int) == 0 then 0 else ((y : Nat) : Int).natAbs.log2 / 30 + 1) + 150)) = false
  rw [decide_eq_false (Nat.not_lt.mpr key), Bool.and_false]
section
variable {P : Program} {w : World} {K : PySem.W.Frag} {mg : Str → Option Value} {base : Heap}
def partsL (q : Nat) (bk : List Int) (ss : List Nat) (band : Nat) : List Int := ss.map (fun s => bk.getD (s * 4 + band) 0) ++ List.replicate (Eh.root (q / 1048576)) (bk.getD (32 + band) 0)
structure GainAsk (K : PySem.W.Frag) (H : Hp) (q : Nat) (pb ps : Addr) (bk : List Int) (ss : List Nat) (band : Nat) : Prop where
  q40 : q ≤ 2 ^ 40
  hb : SqL K H pb (bk.map V.int)
  l36 : bk.length = 36
  b32 : ∀ x ∈ bk, 0 ≤ x ∧ x ≤ 32768
  hs : SqL K H ps ((ss.map Int.ofNat).map V.int)
  s8 : ∀ s ∈ ss, s < 8
  l4 : ss.length ≤ 4
  b4 : band < 4
def spParts (K : PySem.W.Frag) : Sp := fun vs H Q _ => ∃ (q : Nat) (pb ps : Addr) (bk : List Int) (ss : List Nat) (band : Nat), vs = [.int (q : Int), .ref pb, .ref ps, .int (band : Int)] ∧ GainAsk K H q pb ps bk ss band ∧ ∀ H' p, Same H H' → H' p = some (.lst ((partsL q bk ss band).map V.int)) → Q (.ref p) H'
theorem steps_le {q : Nat} (h : q ≤ 2 ^ 40) : Eh.root (q / 1048576) ≤ 1024 := by
  have := Wm.root_lt (n := q / 1048576) (r := 1025) (by omega)
  omega
theorem sc_list_parts : FnScope ["length2", "book", "stuffs", "band", "steps", "stuff"] ["length2", "book", "stuffs", "band"] (defScope s_list_parts) := ⟨rfl, rfl, rfl, by decide +kernel, rfl, by decide +kernel, by decide +kernel⟩
theorem ok_list_parts (F : At K mg "list_parts" s_list_parts ["length2", "book", "stuffs", "band"]) (T : Txt mg) (D_find_root : Def P w K mg base "find_root" 1 ["number"] spRoot) : Def P w K mg base "list_parts" 2 ["length2", "book", "stuffs", "band"] (spParts K) := by
  refine F.ok sc_list_parts (fun vs H Q E h => ?_) (fun f cdv A outer s H vs Q E hr h => ?_)
  · obtain ⟨_, _, _, _, _, _, rfl, _⟩ := h
    rfl
  · obtain ⟨q, pb, ps, bk, ss, band, rfl, G, k⟩ := h
    have nd := sc_list_parts.nd
    have q40 := G.q40
    have b4 := G.b4
    have l36 := G.l36
    refine ⟨_, (pss_cons (ps_set (i := 4) nd rfl (Or.inl rfl) (pe_callD D_find_root hr (pa_cons (pe_op op_fdivB (pv 0) (pe_op op_mulB (pe_gE (by rfl) T.c_AIR_STEP) (pe_gE (by rfl) T.c_AIR_STEP))) pa_nil)))
      (pss_one (ps_ret (pe_op op_cat (pe_lc rfl nd (pi_list (pv 2)) (blkOk_by (own := [("stuff", 5)]) (by show blkC ["length2", "book", "stuffs", "band", "steps", "stuff"] (defScope s_list_parts) _ _ = true; decide +kernel)) (fun _ _ _ _ _ => (pg_name (i := 5) nd rfl (Or.inl rfl))) (fun _ _ _ _ _ => pts_nil) (fun _ _ _ _ _ => (pe_ix (show IxR _ (rIxL K) from ix_list) (pv 1) (pe_op op_add (pe_op op_mulB (pv 5) (pe_gE (by rfl) T.c_BANDS)) (pv 3)) (fun _ _ => rfl)))) (pe_op op_rep (pe_lst (pa_cons (pe_ix ix_list (pv 1) (pe_op op_add (pe_gE (by rfl) T.c_AIR_PLACE) (pv 3)) (fun _ _ => rfl)) pa_nil)) (pv 4)))))), ?_⟩
    refine ⟨_, rfl, _, _, rfl, rfl, mulOk (m := 11) (n := 11) (by decide) (by decide) (by decide), _, _, rfl, rfl, ⟨by decide, PyProof.noPylong_small (by decide)⟩, q / 1048576, rfl, ?_, fun H1 s1 => ?_⟩
    · exact Nat.lt_of_le_of_lt (Nat.div_le_self _ _) (Nat.lt_of_le_of_lt q40 (by decide))
    have hs := s1.seq G.hs
    have hb := s1.seq G.hb
    refine ⟨_, rfl, ps, rfl, ⟨_, hs⟩, fun D hD => lc_mapL (K := K) (a := ps) (xs := (ss.map Int.ofNat).map V.int) (ys := (ss.map fun s => bk.getD (s * 4 + band) 0).map V.int) hD (by simp) (by simp; exact Nat.le_trans G.l4 (by decide)) hs ?_ ?_⟩
    · intro i x y H2 R N hx hy s2 hR
      obtain ⟨z, hz, rfl⟩ := int_at hx
      rw [List.getElem?_map] at hz
      cases e : ss[i]? with
      | none => rw [e] at hz; cases hz
      | some s' =>
        rw [e] at hz
        cases hz
        rw [List.map_map, List.getElem?_map, e] at hy
        cases hy
        have s8 := G.s8 s' (List.mem_of_getElem? e)
        refine ⟨rfl, _, rfl, _, rfl, _, _, rfl, rfl, mulOk (m := 4) (n := 4) (by simp; omega) (by decide) (by decide), _, rfl, _, _, rfl, rfl, pb, _, _, _, rfl, rfl, s2.seq hb, at_int (i := s' * 4 + band) ?_ (by omega), hR _ (Same.refl _)⟩
        simp
    · intro H2 s2 hD2
      refine ⟨_, rfl, _, rfl, _, _, rfl, rfl, pb, _, _, _, rfl, rfl, s2.seq hb, at_int (i := 32 + band) (by omega) (by omega), (by show 1 ≤ sizeLine; decide), fun l hl => ?_⟩
      have st := steps_le q40
      refine ⟨_, rfl, l, _, _, rfl, rfl, upd_same, ?_, ?_, ?_, fun l2 hl2 => ?_⟩
      · omega
      · omega
      · show 1 * _ ≤ sizeLine
        rw [Int.toNat_natCast]
        exact Nat.le_trans (by omega) (show 1024 ≤ sizeLine by decide)
      · refine ⟨D, l2, _, _, rfl, rfl, (same_new hl2) _ _ ((same_new hl) _ _ hD2), upd_same, ?_, fun p hp => ?_⟩
        · rw [Int.toNat_natCast, len_rep]
          simp
          have := G.l4
          exact Nat.le_trans (show _ ≤ 2000 by omega) (show 2000 ≤ sizeLine by decide)
        · refine k _ p (s1.trans (s2.trans ((same_new hl).trans ((same_new hl2).trans (same_new hp))))) ?_
          have e : (partsL q bk ss band).map V.int = (ss.map fun s => bk.getD (s * 4 + band) 0).map V.int ++ (List.replicate ((Eh.root (q / 1048576) : Nat) : Int).toNat [V.int (bk.getD (32 + band) 0)]).flatten := by
            unfold partsL
            rw [List.map_append, Int.toNat_natCast, List.map_replicate]
            congr 1
            induction Eh.root (q / 1048576) with
            | zero => rfl
            | succ n ih => rw [List.replicate_succ, List.replicate_succ, List.flatten_cons, ih]; rfl
          rw [e]
          exact upd_same
end
end Gn
set_option Elab.async false
set_option maxRecDepth 100000
set_option maxHeartbeats 4000000
set_option exponentiation.threshold 40000
namespace Gn
open PySem PySem.Spec PyProof.Rows L2 Lw
open PySem.W (Codec WData)
theorem ratio66 {a b : Nat} (hb : 0 < b) (h : a ≤ 2 ^ 66 * b) : Builtin.divisionGoesByPylong (a : Int) (b : Int) = false := by
  have p : (2 : Nat) ^ 66 < 2 ^ 4000 := Nat.pow_lt_pow_right (by omega) (by omega)
  refine noPylong_ratio hb (Nat.lt_of_le_of_lt h ?_)
  generalize (2 : Nat) ^ 66 = x at p
  generalize (2 : Nat) ^ 4000 = y at p
  exact Nat.mul_lt_mul_of_pos_right p hb
theorem div_le_of {a b c : Nat} (h : a ≤ c * b) (hb : 0 < b) : a / b ≤ c := by
  rw [Nat.div_le_iff_le_mul_add_pred hb, Nat.mul_comm b c]
  omega
def prodN (l : List Nat) : Nat := l.foldr (fun (x y : Nat) => x * y) 1
theorem prod_snoc (x : Nat) : ∀ l : List Nat, prodN (l ++ [x]) = prodN l * x
  | [] => by simp [prodN]
  | y :: l => by
    show y * prodN (l ++ [x]) = y * prodN l * x
    rw [prod_snoc x l, Nat.mul_assoc]
theorem prod_le : ∀ {l : List Nat}, (∀ x ∈ l, x ≤ 32768) → prodN l ≤ 32768 ^ l.length
  | [], _ => Nat.le_refl _
  | y :: l, h => by
    show y * prodN l ≤ 32768 ^ (l.length + 1)
    rw [Nat.pow_succ, Nat.mul_comm (32768 ^ l.length)]
    exact Nat.mul_le_mul (h y (List.mem_cons_self ..)) (prod_le fun x hx => h x (List.mem_cons_of_mem _ hx))
def partsN (q : Nat) (bk : List Int) (ss : List Nat) (band : Nat) : List Nat := (partsL q bk ss band).map Int.toNat
def gainM (q : Nat) (bk : List Int) (ss : List Nat) (band : Nat) : Nat := Eh.nearestOverRoot (2 ^ 32 * prodN (partsN q bk ss band)) (32768 ^ (partsN q bk ss band).length) (max q 1)
theorem parts_ok {K : PySem.W.Frag} {H : Hp} {q : Nat} {pb ps : Addr} {bk : List Int} {ss : List Nat} {band : Nat} (G : GainAsk K H q pb ps bk ss band) : ∀ x ∈ partsL q bk ss band, 0 ≤ x ∧ x ≤ 32768 := by
  have a : ∀ i, 0 ≤ bk.getD i 0 ∧ bk.getD i 0 ≤ 32768 := fun i => by
    rw [List.getD_eq_getElem?_getD]
    cases e : bk[i]? with
    | none => exact ⟨by decide, by decide⟩
    | some c => exact G.b32 c (List.mem_of_getElem? e)
  intro x hx
  unfold partsL at hx
  rcases List.mem_append.mp hx with h | h
  · obtain ⟨s, _, rfl⟩ := List.mem_map.mp h
    exact a _
  · rw [List.eq_of_mem_replicate h]
    exact a _
theorem parts_len {K : PySem.W.Frag} {H : Hp} {q : Nat} {pb ps : Addr} {bk : List Int} {ss : List Nat} {band : Nat} (G : GainAsk K H q pb ps bk ss band) : (partsN q bk ss band).length ≤ 1028 := by
  unfold partsN partsL
  have := steps_le G.q40
  have := G.l4
  simp
  omega
theorem pow15 {n : Nat} (h : n ≤ 1028) : 32768 ^ n ≤ 2 ^ 15420 := by
  have : (32768 : Nat) = 2 ^ 15 := by decide
  rw [this, ← Nat.pow_mul]
  exact Nat.pow_le_pow_right (by decide) (by omega)
theorem back_int {K : PySem.W.Frag} {H : Hp} {q : Nat} {pb ps : Addr} {bk : List Int} {ss : List Nat} {band : Nat} (G : GainAsk K H q pb ps bk ss band) : (partsL q bk ss band).map V.int = (partsN q bk ss band).map fun n : Nat => V.int (n : Int) := by
  unfold partsN
  rw [List.map_map]
  refine List.map_congr_left fun x hx => ?_
  have := (parts_ok G x hx).1
  show V.int x = V.int (x.toNat : Int)
  rw [Int.toNat_of_nonneg this]
theorem nat_at {ns : List Nat} {i : Nat} {v : V} (h : (ns.map fun n : Nat => V.int (n : Int))[i]? = some v) : ∃ z, ns[i]? = some z ∧ v = V.int (z : Int) := by
  rw [List.getElem?_map] at h
  cases e : ns[i]? with
  | none => rw [e] at h; cases h
  | some z => rw [e] at h; exact ⟨z, rfl, (Option.some.inj h).symm⟩
theorem nbits {n m : Nat} (h : n < 2 ^ m) : ((n : Nat) : Int).natAbs < 2 ^ m := by
  rw [Int.natAbs_natCast]
  exact h
section
variable {P : Program} {w : World} {K : PySem.W.Frag} {mg : Str → Option Value} {base : Heap}
def spGain (K : PySem.W.Frag) : Sp := fun vs H Q _ => ∃ (q : Nat) (pb ps : Addr) (bk : List Int) (ss : List Nat) (band : Nat), vs = [.int (q : Int), .ref pb, .ref ps, .int (band : Int)] ∧ GainAsk K H q pb ps bk ss band ∧ ∀ H', Same H H' → Q (.int (gainM q bk ss band : Nat)) H'
theorem sc_find_gain : FnScope ["length2", "book", "stuffs", "band", "left", "whole", "part", "doubled"] ["length2", "book", "stuffs", "band"] (defScope s_find_gain) := ⟨rfl, rfl, rfl, by decide +kernel, rfl, by decide +kernel, by decide +kernel⟩
theorem ok_find_gain (F : At K mg "find_gain" s_find_gain ["length2", "book", "stuffs", "band"]) (T : Txt mg) (D_list_parts : Def P w K mg base "list_parts" 2 ["length2", "book", "stuffs", "band"] (spParts K)) (D_find_root : Def P w K mg base "find_root" 1 ["number"] spRoot) : Def P w K mg base "find_gain" 3 ["length2", "book", "stuffs", "band"] (spGain K) := by
  refine F.ok sc_find_gain (fun vs H Q E h => ?_) (fun f cdv A outer s H vs Q E hr h => ?_)
  · obtain ⟨_, _, _, _, _, _, rfl, _⟩ := h
    rfl
  · obtain ⟨q, pb, ps, bk, ss, band, rfl, G, k⟩ := h
    have nd := sc_find_gain.nd
    have pl := parts_len G
    have pk : ∀ x ∈ partsN q bk ss band, x ≤ 32768 := fun x hx => by
      obtain ⟨y, hy, rfl⟩ := List.mem_map.mp hx
      have := (parts_ok G y hy).2
      omega
    refine ⟨_, (pss_cons (ps_set (i := 4) nd rfl (Or.inl rfl) (pe_gE (by rfl) T.c_GREATEST_GAIN))
      (pss_cons (ps_set (i := 5) nd rfl (Or.inl rfl) pe_int)
      (pss_cons (ps_for PassesOwn.never rfl (pi_list (pe_callD D_list_parts hr (pa_cons (pv 0) (pa_cons (pv 1) (pa_cons (pv 2) (pa_cons (pv 3) pa_nil)))))) (pg_name (i := 6) nd rfl (Or.inl rfl)) (pss_cons (ps_set (i := 4) nd rfl (Or.inl rfl) (pe_op op_mulB (pv 4) (pv 6)))
      (pss_one (ps_set (i := 5) nd rfl (Or.inl rfl) (pe_op op_mulB (pv 5) (pe_gE (by rfl) T.c_WHOLE_PART))))))
      (pss_cons (ps_set (i := 7) nd rfl (Or.inl rfl) (pe_callD D_find_root hr (pa_cons (pe_op op_fdivB (pe_op op_mulB (pe_op op_mulB pe_int (pv 4)) (pv 4)) (pe_op op_mulB (pe_op op_mulB (pe_callB (call_max2 rfl) (by rfl) T.b_max bt_max (pa_cons (pv 0) (pa_cons pe_int pa_nil))) (pv 5)) (pv 5))) pa_nil)))
      (pss_one (ps_ret (pe_op op_fdivB (pe_op op_add (pv 7) pe_int) pe_int))))))), ?_⟩
    refine ⟨_, rfl, _, rfl, _, rfl, _, rfl, q, pb, ps, bk, ss, band, rfl, G, fun H1 p s1 hp => ?_⟩
    rw [back_int G] at hp
    unfold gainM at k
    generalize partsN q bk ss band = ns at *
    refine ⟨p, rfl, ⟨_, SqL.of hp⟩, ?_⟩
    refine for_list (K := K) (a := p) (xs := ns.map fun n : Nat => V.int (n : Int)) (fun m σ H' => ∃ v : Option V, σ = [some (.int (q : Int)), some (.ref pb), some (.ref ps), some (.int (band : Int)), some (.int ((2 ^ 32 * prodN (ns.take m) : Nat) : Int)), some (.int ((32768 ^ m : Nat) : Int)), v, none] ∧ Same H1 H') ⟨none, rfl, Same.refl _⟩ (fun i σ H' _ ⟨_, _, s'⟩ => SqL.of (s' _ _ hp)) ?_ ?_
    · rintro m x σ H2 hx ⟨v, rfl, s2⟩
      obtain ⟨z, hz, rfl⟩ := nat_at hx
      have hm : m < ns.length := (List.getElem?_eq_some_iff.mp hz).1
      have zb := pk z (List.mem_of_getElem? hz)
      have pb1 : prodN (ns.take m) ≤ 2 ^ 15420 := Nat.le_trans (prod_le fun x hx => pk x (List.mem_of_mem_take hx)) (pow15 (by rw [List.length_take]; omega))
      have pb2 : 32768 ^ m ≤ 2 ^ 15420 := pow15 (by omega)
      have lb : 2 ^ 32 * prodN (ns.take m) < 2 ^ 15453 := Nat.lt_of_le_of_lt (Nat.mul_le_mul_left _ pb1) (by decide +kernel)
      have wb : 32768 ^ m < 2 ^ 15421 := Nat.lt_of_le_of_lt pb2 (by decide +kernel)
      refine ⟨_, rfl, _, rfl, _, _, rfl, rfl, mulOk (nbits lb) (nbits (show z < 2 ^ 16 by omega)) (by decide), ?_⟩
      refine ⟨_, rfl, _, _, rfl, rfl, mulOk (nbits wb) (show (32768 : Int).natAbs < 2 ^ 16 by decide) (by decide), ?_⟩
      refine ⟨some (.int (z : Int)), ?_, s2⟩
      have e1 : ((2 ^ 32 * prodN (ns.take m) : Nat) : Int) * (z : Int) = ((2 ^ 32 * prodN (ns.take (m + 1)) : Nat) : Int) := by
        rw [← take_snoc hz, prod_snoc, ← Nat.mul_assoc, Int.natCast_mul]
        rfl
      have e2 : ((32768 ^ m : Nat) : Int) * 32768 = ((32768 ^ (m + 1) : Nat) : Int) := by
        rw [Nat.pow_succ, Int.natCast_mul]
        rfl
      rw [← e1, ← e2]
      rfl
    · rintro σ H2 ⟨v, rfl, s2⟩
      rw [List.length_map, List.take_length]
      have pb1 : prodN ns ≤ 32768 ^ ns.length := prod_le pk
      have pb2 : 32768 ^ ns.length ≤ 2 ^ 15420 := pow15 pl
      have wp : 0 < 32768 ^ ns.length := Nat.pow_pos (by decide)
      have k2 : ∀ H', Same H H' → Q (V.int (((Eh.root (4 * (2 ^ 32 * prodN ns) * (2 ^ 32 * prodN ns) / (max q 1 * 32768 ^ ns.length * 32768 ^ ns.length)) + 1) / 2 : Nat) : Int)) H' := fun H' s' => by
        have := k H' s'
        unfold Eh.nearestOverRoot at this
        have cm : 32768 ^ ns.length * 32768 ^ ns.length * max q 1 = max q 1 * 32768 ^ ns.length * 32768 ^ ns.length := by rw [Nat.mul_comm, Nat.mul_assoc]
        rw [cm] at this
        exact this
      clear k
      generalize 32768 ^ ns.length = W at *
      generalize prodN ns = Pn at *
      have lb : 2 ^ 32 * Pn < 2 ^ 15453 := Nat.lt_of_le_of_lt (Nat.mul_le_mul_left _ (Nat.le_trans pb1 pb2)) (by decide +kernel)
      have wb : W < 2 ^ 15421 := Nat.lt_of_le_of_lt pb2 (by decide +kernel)
      have q40 := G.q40
      have em : (if (1 : Int) > (q : Int) then (1 : Int) else (q : Int)) = ((max q 1 : Nat) : Int) := by
        split <;> omega
      have mb : max q 1 < 2 ^ 41 := by omega
      have mp : 0 < max q 1 := by omega
      generalize max q 1 = mx at *
      have nle : 2 ^ 32 * Pn ≤ 2 ^ 32 * W := Nat.mul_le_mul_left _ pb1
      generalize 2 ^ 32 * Pn = L at *
      have c4 : ((4 : Int) * (L : Int)).natAbs < 2 ^ 15456 := by
        have := mul_bd (show (4 : Int).natAbs < 2 ^ 3 by decide) (nbits lb)
        exact this
      have cw : (((mx : Nat) : Int) * (W : Int)).natAbs < 2 ^ 15462 := mul_bd (nbits mb) (nbits wb)
      have top : (4 : Int) * (L : Int) * (L : Int) = ((4 * L * L : Nat) : Int) := by simp
      have bot : ((mx : Nat) : Int) * (W : Int) * (W : Int) = ((mx * W * W : Nat) : Int) := by simp
      have bp : 0 < mx * W * W := Nat.mul_pos (Nat.mul_pos mp wp) wp
      have up : 4 * L * L ≤ 2 ^ 66 * (mx * W * W) := by
        have a : 4 * L * L ≤ 4 * (2 ^ 32 * W) * (2 ^ 32 * W) := Nat.mul_le_mul (Nat.mul_le_mul_left _ nle) nle
        have b : 4 * (2 ^ 32 * W) * (2 ^ 32 * W) = 2 ^ 66 * (1 * W * W) := by
          rw [Nat.one_mul]
          generalize W = w
          have : (2 : Nat) ^ 66 = 4 * 2 ^ 32 * 2 ^ 32 := by decide
          rw [this]
          simp only [Nat.mul_assoc, Nat.mul_comm, Nat.mul_left_comm]
        have c : 1 * W * W ≤ mx * W * W := Nat.mul_le_mul_right _ (Nat.mul_le_mul_right _ mp)
        exact Nat.le_trans a (b ▸ Nat.mul_le_mul_left _ c)
      have dv : Builtin.divisionGoesByPylong ((4 * L * L : Nat) : Int) ((mx * W * W : Nat) : Int) = false := ratio66 bp up
      have sm : 4 * L * L / (mx * W * W) < 2 ^ 200 := by
        have : 4 * L * L / (mx * W * W) ≤ 2 ^ 66 := div_le_of up bp
        exact Nat.lt_of_le_of_lt this (by decide)
      refine ⟨_, rfl, _, _, rfl, rfl, mulOk (show (4 : Int).natAbs < 2 ^ 3 by decide) (nbits lb) (by decide), _, rfl, _, _, rfl, rfl, mulOk c4 (nbits lb) (by decide), ?_⟩
      refine ⟨_, rfl, _, _, rfl, _, rfl, _, _, rfl, rfl, ?_, _, rfl, _, _, rfl, rfl, ?_, _, _, rfl, rfl, ?_, 4 * L * L / (mx * W * W), ?_, sm, fun H3 s3 => ?_⟩
      · rw [em]
        exact mulOk (nbits mb) (nbits wb) (by decide)
      · rw [em]
        exact mulOk cw (nbits wb) (by decide)
      · rw [em, top, bot]
        exact ⟨by exact_mod_cast bp, dv⟩
      · rw [em, top, bot]
        rfl
      · refine ⟨_, rfl, _, _, rfl, rfl, _, _, rfl, rfl, ⟨by decide, PyProof.noPylong_small (by decide)⟩, ?_⟩
        exact k2 H3 (s1.trans (s2.trans s3))
end
end Gn
set_option Elab.async false
set_option maxRecDepth 100000
set_option maxHeartbeats 4000000
namespace Gn
open PySem PySem.Spec PyProof.Rows L2 Lw
open PySem.W (Codec WData)
section
variable {P : Program} {w : World} {K : PySem.W.Frag} {mg : Str → Option Value} {base : Heap}
def stuffM (ns : List Int) (w : Nat) : Int := ns.getD (if w < ns.length / 3 - 1 then 3 * w + 5 else 1 + w - (ns.length / 3 - 1)) 0
def spStuff (K : PySem.W.Frag) : Sp := fun vs H Q _ => ∃ (a : Addr) (ns : List Int) (w : Nat), vs = [.ref a, .int (w : Int)] ∧ SqL K H a (ns.map V.int) ∧ ns.length % 3 = 0 ∧ 12 ≤ ns.length ∧ ns.length ≤ 300 ∧ w < ns.length / 3 + 1 ∧ ∀ H', Same H H' → Q (.int (stuffM ns w)) H'
theorem sc_find_stuff : FnScope ["room", "wall", "floor"] ["room", "wall"] (defScope s_find_stuff) := ⟨rfl, rfl, rfl, by decide +kernel, rfl, by decide +kernel, by decide +kernel⟩
theorem ok_find_stuff (F : At K mg "find_stuff" s_find_stuff ["room", "wall"]) (T : Txt mg) (D_count_walls : Def P w K mg base "count_walls" 1 ["room"] (spWalls K)) : Def P w K mg base "find_stuff" 2 ["room", "wall"] (spStuff K) := by
  refine F.ok sc_find_stuff (fun vs H Q E h => ?_) (fun f cdv A outer s H vs Q E hr h => ?_)
  · obtain ⟨_, _, _, rfl, _⟩ := h
    rfl
  · obtain ⟨a, ns, wl, rfl, hS, h3, hl, h300, hw, k⟩ := h
    have nd := sc_find_stuff.nd
    refine ⟨_, (pss_cons (ps_set (i := 2) nd rfl (Or.inl rfl) (pe_op op_sub (pe_callD D_count_walls hr (pa_cons (pv 0) pa_nil)) pe_int))
      (pss_cons (ps_if (pt_cmpR op_lt (pv 1) (pv 2) (nomark _)) (pss_one (ps_ret (pe_ix ix_list (pv 0) (pe_op op_add (pe_op op_mulB pe_int (pv 1)) pe_int) (fun _ _ => rfl)))) pss_nil)
      (pss_one (ps_ret (pe_ix ix_list (pv 0) (pe_op op_sub (pe_op op_add pe_int (pv 1)) (pv 2)) (fun _ _ => rfl)))))), ?_⟩
    refine ⟨_, rfl, a, _, rfl, hS, fun H1 s1 => ⟨_, _, rfl, rfl, ?_⟩⟩
    have hS := s1.seq hS
    have e : ((((ns.map V.int).length / 3 + 1 : Nat) : Int) - 2) = ((ns.length / 3 - 1 : Nat) : Int) := by
      rw [List.length_map]
      omega
    rw [List.length_map] at *
    have k := k H1 s1
    unfold stuffM at k
    refine ⟨_, rfl, _, rfl, _, _, rfl, rfl, _, rfl, ?_⟩
    refine ite2 (fun c => ?_) (fun c => ?_)
    · have c : wl < ns.length / 3 - 1 := by
        have c : (wl : Int) < ((ns.length / 3 + 1 : Nat) : Int) - 2 := by simpa using c
        omega
      rw [if_pos c] at k
      exact ⟨_, rfl, _, rfl, _, _, rfl, rfl, mulOk (m := 3) (n := 64) (by decide) (by omega) (by decide), _, _, rfl, rfl, a, _, _, _, rfl, rfl, hS, at_int (i := 3 * wl + 5) (by omega) (by omega), k⟩
    · have c : ¬ wl < ns.length / 3 - 1 := by
        have c : ¬ (wl : Int) < ((ns.length / 3 + 1 : Nat) : Int) - 2 := by simpa using c
        omega
      rw [if_neg c] at k
      exact ⟨_, rfl, _, rfl, _, _, rfl, rfl, _, rfl, _, _, rfl, rfl, a, _, _, _, rfl, rfl, hS, at_int (i := 1 + wl - (ns.length / 3 - 1)) (by omega) (by omega), k⟩
def RefIs (ns bk : List Int) (o : Option (List Int)) : Prop :=
  (∃ r i : Nat, FaultIs ns (some (r, i)) ∧ o = some [-5, (r : Int), (i : Int)]) ∨ (FaultIs ns none ∧ ((∃ m : Nat, bookFault bk = some m ∧ o = some [-6, (m : Int)]) ∨ (bookFault bk = none ∧ o = none)))
def optL (H : Hp) (v : V) : Option (List Int) → Prop
  | none => v = .non
  | some l => ∃ p, v = .ref p ∧ H p = some (.lst (l.map V.int))
def spRefuse (K : PySem.W.Frag) : Sp := fun vs H Q _ => ∃ (a b : Addr) (ns bk : List Int), vs = [.ref a, .ref b] ∧ SqL K H a (ns.map V.int) ∧ SqL K H b (bk.map V.int) ∧ ns.length ≤ 300 ∧ (∀ x ∈ ns, x.natAbs ≤ 2 ^ 63) ∧ ∀ o v H', RefIs ns bk o → optL H' v o → Same H H' → Q v H'
theorem sc_refuse_room_or_book : FnScope ["room", "book", "room_fault", "book_fault"] ["room", "book"] (defScope s_refuse_room_or_book) := ⟨rfl, rfl, rfl, by decide +kernel, rfl, by decide +kernel, by decide +kernel⟩
theorem ok_refuse_room_or_book (F : At K mg "refuse_room_or_book" s_refuse_room_or_book ["room", "book"]) (T : Txt mg) (D_find_room_fault : Def P w K mg base "find_room_fault" 6 ["room"] (spRoomFault K)) (D_find_book_fault : Def P w K mg base "find_book_fault" 1 ["book"] (spFault K)) : Def P w K mg base "refuse_room_or_book" 7 ["room", "book"] (spRefuse K) := by
  refine F.ok sc_refuse_room_or_book (fun vs H Q E h => ?_) (fun f cdv A outer s H vs Q E hr h => ?_)
  · obtain ⟨_, _, _, _, rfl, _⟩ := h
    rfl
  · obtain ⟨a, b, ns, bk, rfl, hS, hB, hl, hb, k⟩ := h
    have nd := sc_refuse_room_or_book.nd
    refine ⟨_, (pss_cons (ps_set (i := 2) nd rfl (Or.inl rfl) (pe_callD D_find_room_fault hr (pa_cons (pv 0) pa_nil)))
      (pss_cons (ps_if (pt_cmpR op_notN (pv 2) pe_non (nomark _)) (pss_one (ps_ret (pe_lst (pa_cons (pe_gE (by rfl) T.c_NO_ROOM) (pa_cons (pe_ix ix_tup (pv 2) pe_int (fun _ _ => rfl)) (pa_cons (pe_ix ix_tup (pv 2) pe_int (fun _ _ => rfl)) pa_nil)))))) pss_nil)
      (pss_cons (ps_set (i := 3) nd rfl (Or.inl rfl) (pe_callD D_find_book_fault hr (pa_cons (pv 1) pa_nil)))
      (pss_cons (ps_if (pt_cmpR op_notN (pv 3) pe_non (nomark _)) (pss_one (ps_ret (pe_lst (pa_cons (pe_gE (by rfl) T.c_NO_BOOK) (pa_cons (pv 3) pa_nil))))) pss_nil)
      (pss_one (ps_ret pe_non)))))), ?_⟩
    refine ⟨_, rfl, a, ns, rfl, hS, hl, hb, fun o v H1 ho hv s1 => ?_⟩
    cases o with
    | some x =>
      obtain ⟨r, i⟩ := x
      obtain ⟨p, rfl, hp⟩ := hv
      refine ⟨_, rfl, rfl, _, rfl, ?_⟩
      refine ⟨_, rfl, p, _, _, _, rfl, rfl, SqT.of hp, rfl, _, rfl, p, _, _, _, rfl, rfl, SqT.of hp, rfl, (by show 3 ≤ sizeLine; decide), fun l hl => ?_⟩
      exact k _ _ _ (.inl ⟨r, i, ho, rfl⟩) ⟨l, rfl, upd_same⟩ (s1.trans (same_new hl))
    | none =>
      cases hv
      refine ⟨_, rfl, rfl, _, rfl, ?_⟩
      refine ⟨_, rfl, b, bk, rfl, s1.seq hB, fun H2 s2 => ?_⟩
      cases e : bookFault bk with
      | none =>
        refine ⟨_, rfl, rfl, _, rfl, ?_⟩
        exact k _ _ _ (.inr ⟨ho, .inr ⟨e, rfl⟩⟩) rfl (s1.trans s2)
      | some m =>
        refine ⟨_, rfl, rfl, _, rfl, ?_⟩
        refine ⟨_, rfl, (by show 2 ≤ sizeLine; decide), fun l hl => ?_⟩
        exact k _ _ _ (.inr ⟨ho, .inl ⟨m, e, rfl⟩⟩) ⟨l, rfl, upd_same⟩ (s1.trans (s2.trans (same_new hl)))
def wallsOk (ns ws : List Int) : Prop := ws.length ≤ 4 ∧ ∀ x ∈ ws, x < ((ns.length / 3 + 1 : Nat) : Int)
def spAreWalls (K : PySem.W.Frag) : Sp := fun vs H Q _ => ∃ (a b : Addr) (ns ws : List Int), vs = [.ref a, .ref b] ∧ SqL K H a (ns.map V.int) ∧ SqL K H b (ws.map V.int) ∧ ws.length ≤ 20 ∧ ∀ v H', (v = true ↔ wallsOk ns ws) → Same H H' → Q (.bl v) H'
theorem sc_are_walls : FnScope ["room", "walls", "wall"] ["room", "walls"] (defScope s_are_walls) := ⟨rfl, rfl, rfl, by decide +kernel, rfl, by decide +kernel, by decide +kernel⟩
theorem ok_are_walls (F : At K mg "are_walls" s_are_walls ["room", "walls"]) (T : Txt mg) (D_count_walls : Def P w K mg base "count_walls" 1 ["room"] (spWalls K)) : Def P w K mg base "are_walls" 2 ["room", "walls"] (spAreWalls K) := by
  refine F.ok sc_are_walls (fun vs H Q E h => ?_) (fun f cdv A outer s H vs Q E hr h => ?_)
  · obtain ⟨_, _, _, _, rfl, _⟩ := h
    rfl
  · obtain ⟨a, b, ns, ws, rfl, hS, hW, hl, k⟩ := h
    have nd := sc_are_walls.nd
    refine ⟨_, (pss_one (ps_ret (pe_and (pe_cmpR op_le (pe_callB call_len_seq (by rfl) T.b_len bt_len (pa_cons (pv 1) pa_nil)) (pe_gE (by rfl) T.c_MOST_TURNS) (nomark _)) (pe_one (pe_callB (cr_all rfl) (by rfl) T.b_all bt_all (pa_cons (pe_lc rfl nd (pi_list (pv 1)) (blkOk_by (own := [("wall", 2)]) (by show blkC ["room", "walls", "wall"] (defScope s_are_walls) _ _ = true; decide +kernel)) (fun _ _ _ _ _ => (pg_name (i := 2) nd rfl (Or.inl rfl))) (fun _ _ _ _ _ => pts_nil) (fun _ _ _ _ _ => (pe_cmpR op_lt (pv 2) (pe_callD D_count_walls hr (pa_cons (pv 0) pa_nil)) (nomark _)))) pa_nil)))))), ?_⟩
    refine ⟨_, rfl, b, _, rfl, .inl hW, _, _, rfl, rfl, _, rfl, ?_⟩
    rw [List.length_map]
    refine ite2 (fun c => ?_) (fun c => ?_)
    · have c : ws.length ≤ 4 := by
        have c : (ws.length : Int) ≤ 4 := by simpa using c
        omega
      refine ⟨_, rfl, b, rfl, ⟨_, hW⟩, fun D hD => lc_mapL (K := K) (a := b) (xs := ws.map V.int) (ys := (ws.map fun x => decide (x < ((ns.length / 3 + 1 : Nat) : Int))).map V.bl) hD (by simp) (by simp; exact Nat.le_trans hl (by decide)) hW ?_ ?_⟩
      · intro i x y H2 R N hx hy s2 hR
        obtain ⟨z, hz, rfl⟩ := int_at hx
        rw [List.map_map, List.getElem?_map, hz] at hy
        cases hy
        refine ⟨rfl, _, rfl, _, rfl, a, _, rfl, s2.seq hS, fun H3 s3 => ⟨_, _, rfl, rfl, ?_⟩⟩
        rw [List.length_map]
        exact hR _ s3
      · intro H2 s2 hD2
        refine ⟨D, _, rfl, SqL.of hD2, k _ _ ?_ s2⟩
        unfold wallsOk
        rw [List.all_map, List.all_eq_true]
        constructor
        · intro q
          exact ⟨c, fun x hx => by simpa using q x hx⟩
        · intro q x hx
          simpa using q.2 x hx
    · refine k _ _ (no_iff fun q => c ?_) (Same.refl H)
      have := q.1
      simp
      omega
end
end Gn
set_option Elab.async false
set_option maxRecDepth 100000
set_option maxHeartbeats 4000000
namespace Gn
open PySem PySem.Spec PyProof.Rows L2 Lw
open PySem.W (Codec WData)
def GainsIs (q : Nat) (ns bk ws : List Int) (l : List Int) : Prop :=
  (∃ r, RefIs ns bk (some r) ∧ l = r) ∨ (RefIs ns bk none ∧ ((¬ wallsOk ns ws ∧ l = [-1]) ∨ (wallsOk ns ws ∧ ((2 ^ 40 < q ∧ l = [-4]) ∨ (q ≤ 2 ^ 40 ∧
    l = 0 :: (List.range 4).map fun b => ((gainM q bk (ws.map fun x => (stuffM ns x.toNat).toNat) b : Nat) : Int))))))
theorem ref_none {ns bk : List Int} (h : RefIs ns bk none) : FaultIs ns none ∧ bookFault bk = none := by
  rcases h with ⟨r, i, _, e⟩ | ⟨f, ⟨m, _, e⟩ | ⟨b, _⟩⟩
  · cases e
  · cases e
  · exact ⟨f, b⟩
theorem fault_none {ns : List Int} (h : FaultIs ns none) : lenOk ns ∧ headOk ns ∧ (∀ r i, 3 ≤ r → r ≤ 6 → i < (trisOf ns).length → ¬ brk (trisOf ns) r i) ∧ ¬ areaTo (trisOf ns) (trisOf ns).length < 0 := by
  rcases h with ⟨_, e⟩ | ⟨_, _, e⟩ | ⟨_, _, r, i, _, _, _, _, _, _, e⟩ | ⟨a, b, c, ⟨_, e⟩ | ⟨d, _⟩⟩
  · cases e
  · cases e
  · cases e
  · cases e
  · exact ⟨a, b, c, d⟩
theorem book_ok {bk : List Int} (h : bookFault bk = none) : bk.length = 36 ∧ ∀ x ∈ bk, x ≤ 32768 := by
  unfold bookFault at h
  by_cases c : bk.length ≠ 36
  · rw [if_pos c] at h
    cases h
  · rw [if_neg c, List.findIdx?_eq_none_iff] at h
    refine ⟨by omega, fun x hx => ?_⟩
    have := h x hx
    simp at this
    exact this
theorem stuff_ok {ns : List Int} (h : FaultIs ns none) {w : Nat} (hw : w < ns.length / 3 + 1) : 0 ≤ stuffM ns w ∧ stuffM ns w ≤ 7 := by
  obtain ⟨⟨h3, hl, hl2⟩, ⟨_, hf, hc⟩, hb, _⟩ := fault_none h
  unfold stuffM
  by_cases c : w < ns.length / 3 - 1
  · rw [if_pos c]
    have q := hb 3 w (by decide) (by decide) (by rw [tris_len]; exact c)
    unfold brk at q
    rw [if_pos rfl] at q
    have q := Classical.byContradiction q
    have e : atC (trisOf ns) w = triOf ns w := by
      unfold atC
      rw [tris_len, Nat.mod_eq_of_lt c, List.getD_eq_getElem?_getD]
      unfold trisOf
      rw [List.getElem?_map, List.getElem?_range c]
      rfl
    rw [e] at q
    exact q.2.2
  · rw [if_neg c]
    have : 1 + w - (ns.length / 3 - 1) = 1 ∨ 1 + w - (ns.length / 3 - 1) = 2 := by omega
    rcases this with e | e <;> rw [e]
    · exact hf
    · exact hc
section
variable {P : Program} {w : World} {K : PySem.W.Frag} {mg : Str → Option Value} {base : Heap}
def gainW (q : Nat) (ns bk ws : List Int) (b : Nat) : Nat := gainM q bk (ws.map fun x => (stuffM ns x.toNat).toNat) b
def spGainBy (K : PySem.W.Frag) : Sp := fun vs H Q _ => ∃ (q : Nat) (pr pb pw : Addr) (ns bk ws : List Int) (band : Nat), vs = [.int (q : Int), .ref pr, .ref pb, .ref pw, .int (band : Int)] ∧ SqL K H pr (ns.map V.int) ∧ SqL K H pb (bk.map V.int) ∧ SqL K H pw (ws.map V.int) ∧ ns.length ≤ 300 ∧ (∀ x ∈ bk, 0 ≤ x) ∧ FaultIs ns none ∧ bookFault bk = none ∧ ws.length ≤ 4 ∧ (∀ x ∈ ws, 0 ≤ x ∧ x.toNat < ns.length / 3 + 1) ∧ q ≤ 2 ^ 40 ∧ band < 4 ∧ ∀ H', Same H H' → Q (.int (gainW q ns bk ws band : Nat)) H'
theorem sc_find_gain_by_walls : FnScope ["length2", "room", "book", "walls", "band", "wall"] ["length2", "room", "book", "walls", "band"] (defScope s_find_gain_by_walls) := ⟨rfl, rfl, rfl, by decide +kernel, rfl, by decide +kernel, by decide +kernel⟩
theorem ok_find_gain_by_walls (F : At K mg "find_gain_by_walls" s_find_gain_by_walls ["length2", "room", "book", "walls", "band"]) (T : Txt mg) (D_find_stuff : Def P w K mg base "find_stuff" 2 ["room", "wall"] (spStuff K)) (D_find_gain : Def P w K mg base "find_gain" 3 ["length2", "book", "stuffs", "band"] (spGain K)) : Def P w K mg base "find_gain_by_walls" 4 ["length2", "room", "book", "walls", "band"] (spGainBy K) := by
  refine F.ok sc_find_gain_by_walls (fun vs H Q E h => ?_) (fun f cdv A outer s H vs Q E hr h => ?_)
  · obtain ⟨_, _, _, _, _, _, _, _, rfl, _⟩ := h
    rfl
  · obtain ⟨q, pr, pb, pw, ns, bk, ws, band, rfl, hS, hB, hW, hl, hbk, hf, hbf, hwl, hws, c, hband, k⟩ := h
    have nd := sc_find_gain_by_walls.nd
    obtain ⟨l36, b32⟩ := book_ok hbf
    obtain ⟨⟨h3, hl1, hl2⟩, _⟩ := fault_none hf
    refine ⟨_, (pss_one (ps_ret (pe_callD D_find_gain hr (pa_cons (pv 0) (pa_cons (pv 2) (pa_cons (pe_lc rfl nd (pi_list (pv 3)) (blkOk_by (own := [("wall", 5)]) (by show blkC ["length2", "room", "book", "walls", "band", "wall"] (defScope s_find_gain_by_walls) _ _ = true; decide +kernel)) (fun _ _ _ _ _ => (pg_name (i := 5) nd rfl (Or.inl rfl))) (fun _ _ _ _ _ => pts_nil) (fun _ _ _ _ _ => (pe_callD D_find_stuff hr (pa_cons (pv 1) (pa_cons (pv 5) pa_nil))))) (pa_cons (pv 4) pa_nil))))))), ?_⟩
    refine ⟨_, rfl, _, rfl, _, rfl, pw, rfl, ⟨_, hW⟩, fun D hD => lc_mapL (K := K) (a := pw) (xs := ws.map V.int) (ys := (((ws.map fun x => (stuffM ns x.toNat).toNat)).map Int.ofNat).map V.int) hD (by simp) (by simp; exact Nat.le_trans hwl (by decide)) hW ?_ ?_⟩
    · intro i x y H3 R N hx hy s3 hR
      obtain ⟨z, hz, rfl⟩ := int_at hx
      rw [List.map_map, List.map_map, List.getElem?_map, hz] at hy
      cases hy
      have hm := List.mem_of_getElem? hz
      obtain ⟨z0, zt⟩ := hws z hm
      refine ⟨rfl, _, rfl, _, rfl, pr, ns, z.toNat, ?_, s3.seq hS, h3, by omega, hl, zt, fun H4 s4 => ?_⟩
      · rw [Int.toNat_of_nonneg z0]
        rfl
      · have e : stuffM ns z.toNat = Int.ofNat (stuffM ns z.toNat).toNat := (Int.toNat_of_nonneg (stuff_ok hf zt).1).symm
        have := hR H4 s4
        rw [e]
        exact this
    · intro H3 s3 hD3
      refine ⟨_, rfl, q, pb, D, bk, _, band, rfl, ⟨c, s3.seq hB, l36, fun x hx => ⟨hbk x hx, b32 x hx⟩, SqL.of hD3, ?_, ?_, hband⟩, fun H6 s6 => k _ (s3.trans s6)⟩
      · intro st hst
        obtain ⟨x, hx, rfl⟩ := List.mem_map.mp hst
        have := stuff_ok hf (hws x hx).2
        omega
      · rw [List.length_map]
        exact hwl
def spGains (K : PySem.W.Frag) : Sp := fun vs H Q _ => ∃ (q : Nat) (pr pb pw : Addr) (ns bk ws : List Int), vs = [.int (q : Int), .ref pr, .ref pb, .ref pw] ∧ SqL K H pr (ns.map V.int) ∧ SqL K H pb (bk.map V.int) ∧ SqL K H pw (ws.map V.int) ∧ ns.length ≤ 300 ∧ (∀ x ∈ ns, x.natAbs ≤ 2 ^ 63) ∧ (∀ x ∈ bk, 0 ≤ x) ∧ ws.length ≤ 20 ∧ (∀ x ∈ ws, 0 ≤ x) ∧ ∀ l H' p, GainsIs q ns bk ws l → Same H H' → H' p = some (.lst (l.map V.int)) → Q (.ref p) H'
theorem sc_gains : FnScope ["length2", "room", "book", "walls", "refusal", "band"] ["length2", "room", "book", "walls"] (defScope s_gains) := ⟨rfl, rfl, rfl, by decide +kernel, rfl, by decide +kernel, by decide +kernel⟩
theorem ok_gains (F : At K mg "gains" s_gains ["length2", "room", "book", "walls"]) (T : Txt mg) (D_refuse_room_or_book : Def P w K mg base "refuse_room_or_book" 7 ["room", "book"] (spRefuse K)) (D_are_walls : Def P w K mg base "are_walls" 2 ["room", "walls"] (spAreWalls K))
    (D_find_gain_by_walls : Def P w K mg base "find_gain_by_walls" 4 ["length2", "room", "book", "walls", "band"] (spGainBy K)) : Def P w K mg base "gains" 8 ["length2", "room", "book", "walls"] (spGains K) := by
  refine F.ok sc_gains (fun vs H Q E h => ?_) (fun f cdv A outer s H vs Q E hr h => ?_)
  · obtain ⟨_, _, _, _, _, _, _, rfl, _⟩ := h
    rfl
  · obtain ⟨q, pr, pb, pw, ns, bk, ws, rfl, hS, hB, hW, hl, hb, hbk, hwl, hw0, k⟩ := h
    have nd := sc_gains.nd
    refine ⟨_, (pss_cons (ps_set (i := 4) nd rfl (Or.inl rfl) (pe_callD D_refuse_room_or_book hr (pa_cons (pv 1) (pa_cons (pv 2) pa_nil))))
      (pss_cons (ps_if (pt_cmpR op_notN (pv 4) pe_non (nomark _)) (pss_one (ps_ret (pv 4))) pss_nil)
      (pss_cons (ps_if (pt_not (pt_val (pe_callD D_are_walls hr (pa_cons (pv 1) (pa_cons (pv 3) pa_nil))))) (pss_one (ps_ret (pe_lst (pa_cons (pe_gE (by rfl) T.c_OUT_OF_RANGE) pa_nil)))) pss_nil)
      (pss_cons (ps_if (pt_cmpR op_gt (pv 0) (pe_gE (by rfl) T.c_GREATEST_LENGTH2) (nomark _)) (pss_one (ps_ret (pe_lst (pa_cons (pe_gE (by rfl) T.c_TOO_LONG) pa_nil)))) pss_nil)
      (pss_one (ps_ret (pe_op op_cat (pe_lst (pa_cons (pe_gE (by rfl) T.c_FINE) pa_nil)) (pe_lc rfl nd (pi_range1 (by rfl) T.b_range (pa_cons (pe_gE (by rfl) T.c_BANDS) pa_nil)) (blkOk_by (own := [("band", 5)]) (by show blkC ["length2", "room", "book", "walls", "refusal", "band"] (defScope s_gains) _ _ = true; decide +kernel)) (fun _ _ _ _ _ => (pg_name (i := 5) nd rfl (Or.inl rfl))) (fun _ _ _ _ _ => pts_nil) (fun _ _ _ _ _ => (pe_callD D_find_gain_by_walls hr (pa_cons (pv 0) (pa_cons (pv 1) (pa_cons (pv 2) (pa_cons (pv 3) (pa_cons (pv 5) pa_nil))))))))))))))), ?_⟩
    refine ⟨_, rfl, _, rfl, pr, pb, ns, bk, rfl, hS, hB, hl, hb, fun o v H1 ho hv s1 => ?_⟩
    cases o with
    | some l =>
      obtain ⟨p, rfl, hp⟩ := hv
      refine ⟨_, rfl, rfl, _, rfl, ?_⟩
      exact ⟨_, rfl, k _ _ _ (.inl ⟨l, ho, rfl⟩) s1 hp⟩
    | none =>
      cases hv
      refine ⟨_, rfl, rfl, _, rfl, ?_⟩
      refine ⟨_, rfl, _, rfl, pr, pw, ns, ws, rfl, s1.seq hS, s1.seq hW, hwl, fun b H2 h2 s2 => ⟨_, rfl, ?_⟩⟩
      have s12 := s1.trans s2
      cases b with
      | false =>
        refine ⟨(by show 1 ≤ sizeLine; decide), fun p hp => ?_⟩
        exact k _ _ p (.inr ⟨ho, .inl ⟨fun z => (by have := h2.mpr z; cases this), rfl⟩⟩) (s12.trans (same_new hp)) upd_same
      | true =>
        have wk : wallsOk ns ws := h2.mp rfl
        refine ⟨_, rfl, _, _, rfl, rfl, _, rfl, ?_⟩
        refine ite2 (fun c => ?_) (fun c => ?_)
        · have c : 2 ^ 40 < q := by
            have c : (1099511627776 : Int) < (q : Int) := by simpa using c
            omega
          refine ⟨(by show 1 ≤ sizeLine; decide), fun p hp => ?_⟩
          exact k _ _ p (.inr ⟨ho, .inr ⟨wk, .inl ⟨c, rfl⟩⟩⟩) (s12.trans (same_new hp)) upd_same
        · have c : q ≤ 2 ^ 40 := by
            have c : ¬ (1099511627776 : Int) < (q : Int) := by simpa using c
            omega
          obtain ⟨hf, hbf⟩ := ref_none ho
          obtain ⟨l36, b32⟩ := book_ok hbf
          obtain ⟨⟨h3, hl1, hl2⟩, _⟩ := fault_none hf
          have wlt : ∀ x ∈ ws, x.toNat < ns.length / 3 + 1 := fun x hx => by
            have := wk.2 x hx
            have := hw0 x hx
            omega
          refine ⟨(by show 1 ≤ sizeLine; decide), fun l1 hl1 => ?_⟩
          have s14 := s12.trans (same_new (o := .lst [.int 0]) hl1)
          refine ⟨4, rfl, by decide, by decide, fun D2 hD2 => lc_mapR (lo := 0) (n := 4) (ys := ((List.range 4).map fun b => ((gainM q bk (ws.map fun x => (stuffM ns x.toNat).toNat) b : Nat) : Int)).map V.int) hD2 (by simp) (by simp; decide) ?_ ?_⟩
          · intro i y H5 R N hi hy s5 hR
            have ei : (0 : Int) + (i : Int) = (i : Int) := by omega
            rw [ei]
            rw [List.map_map, List.getElem?_map, List.getElem?_range hi] at hy
            cases hy
            have s15 := s14.trans s5
            exact ⟨rfl, _, rfl, _, rfl, _, rfl, _, rfl, _, rfl, q, pr, pb, pw, ns, bk, ws, i, rfl, s15.seq hS, s15.seq hB, s15.seq hW, hl, hbk, hf, hbf, wk.1, fun x hx => ⟨hw0 x hx, wlt x hx⟩, c, hi, fun H6 s6 => hR _ s6⟩
          · intro H5 s5 hD5
            refine ⟨l1, D2, _, _, rfl, rfl, s5 _ _ upd_same, hD5, (by simp; decide), fun p hp => ?_⟩
            refine k _ _ p (.inr ⟨ho, .inr ⟨wk, .inr ⟨c, rfl⟩⟩⟩) (s14.trans (s5.trans (same_new hp))) ?_
            exact upd_same
end
end Gn
set_option Elab.async false
set_option maxRecDepth 100000
set_option maxHeartbeats 4000000
namespace Gn
open Eh
def toC (c : Tri) : Corner := ⟨c.1, c.2.1, stuffOf c.2.2⟩
theorem atC_tri {ns : List Int} (h : 0 < ns.length / 3 - 1) (i : Nat) : atC (trisOf ns) i = triOf ns (i % (ns.length / 3 - 1)) := by
  unfold atC
  rw [tris_len, List.getD_eq_getElem?_getD]
  unfold trisOf
  rw [List.getElem?_map, List.getElem?_range (Nat.mod_lt _ h)]
  rfl
theorem corner_eq {ns : List Int} (h : 0 < ns.length / 3 - 1) (i : Nat) : (Wm.theRoom ns).corner i = toC (atC (trisOf ns) i) := by
  rw [atC_tri h, ← Wm.corner_wrap, Wm.theRoom_n, Wm.theRoom_corner ns _ (Nat.mod_lt _ h)]
  rfl
theorem stuff8 (z : Int) : STUFFS ≤ stuffOf z ↔ ¬ (0 ≤ z ∧ z ≤ 7) := by
  unfold stuffOf STUFFS
  by_cases c : z < 0
  · rw [if_pos c]
    omega
  · rw [if_neg c]
    omega
theorem dir_eq (C : List Tri) (i : Nat) : dirM C i ↔ Wm.dirC (toC (atC C i)) (toC (atC C (i + 1))) = true := by
  unfold dirM Wm.dirC
  have e1 : (toC (atC C (i + 1))).x - (toC (atC C i)).x = runX C i := rfl
  have e2 : (toC (atC C (i + 1))).y - (toC (atC C i)).y = runY C i := rfl
  rw [e1, e2]
  generalize runX C i = x
  generalize runY C i = y
  simp only [Bool.and_eq_true, Bool.not_eq_true', Bool.and_eq_false_iff, beq_eq_false_iff_ne, Bool.or_eq_true, beq_iff_eq]
  by_cases c : x = 0 ∨ y = 0
  · rw [if_pos c]
    omega
  · rw [if_neg c]
    omega
theorem straight_eq (C : List Tri) (i : Nat) : straightM C i ↔ Wm.alongC (toC (atC C i)) (toC (atC C (i + 1))) (toC (atC C (i + 1))) (toC (atC C (i + 2))) = true := by
  unfold straightM Wm.alongC
  have e1 : (toC (atC C (i + 1))).x - (toC (atC C i)).x = runX C i := rfl
  have e2 : (toC (atC C (i + 1))).y - (toC (atC C i)).y = runY C i := rfl
  have e3 : (toC (atC C (i + 2))).x - (toC (atC C (i + 1))).x = runX C (i + 1) := rfl
  have e4 : (toC (atC C (i + 2))).y - (toC (atC C (i + 1))).y = runY C (i + 1) := rfl
  rw [e1, e2, e3, e4, beq_iff_eq]
  omega
def p3 (r : Room) (i : Nat) : Bool := decide (WIDE < (r.corner i).x) || (decide (WIDE < (r.corner i).y) || (decide ((r.corner i).x < 0) || (decide ((r.corner i).y < 0) || decide (STUFFS ≤ (r.corner i).stuff))))
def p4 (r : Room) (i : Nat) : Bool := !Wm.dirC (r.corner i) (r.corner (i + 1))
def p5 (r : Room) (i : Nat) : Bool := Wm.alongC (r.corner i) (r.corner (i + 1)) (r.corner (i + 1)) (r.corner (i + 1 + 1))
def p6 (r : Room) (i : Nat) : Bool := (List.range r.n).any fun (j : Nat) => !neighbours r.n i j && Wm.meetC (r.corner i) (r.corner (i + 1)) (r.corner j) (r.corner (j + 1))
section
variable {ns : List Int} (hn : 0 < ns.length / 3 - 1)
include hn
theorem b3 (i : Nat) : brk (trisOf ns) 3 i ↔ p3 (Wm.theRoom ns) i = true := by
  unfold brk p3
  rw [if_pos rfl, corner_eq hn]
  generalize atC (trisOf ns) i = c
  have := stuff8 c.2.2
  unfold okTri toC WIDE
  simp only [Bool.or_eq_true, decide_eq_true_iff]
  omega
theorem b4 (i : Nat) : brk (trisOf ns) 4 i ↔ p4 (Wm.theRoom ns) i = true := by
  unfold brk p4
  rw [if_neg (by decide), if_pos rfl, corner_eq hn, corner_eq hn, dir_eq]
  cases Wm.dirC (toC (atC (trisOf ns) i)) (toC (atC (trisOf ns) (i + 1))) <;> simp
theorem b5 (i : Nat) : brk (trisOf ns) 5 i ↔ p5 (Wm.theRoom ns) i = true := by
  unfold brk p5
  rw [if_neg (by decide), if_neg (by decide), if_pos rfl, corner_eq hn, corner_eq hn, corner_eq hn, straight_eq]
theorem b6 (hd : ∀ i, Wm.dirC ((Wm.theRoom ns).corner i) ((Wm.theRoom ns).corner (i + 1)) = true) (i : Nat) : brk (trisOf ns) 6 i ↔ ∃ j, i + 2 ≤ j ∧ j < ns.length / 3 - 1 ∧ (j + 1) % (ns.length / 3 - 1) ≠ i ∧ Wm.meetC ((Wm.theRoom ns).corner i) ((Wm.theRoom ns).corner (i + 1)) ((Wm.theRoom ns).corner j) ((Wm.theRoom ns).corner (j + 1)) = true := by
  unfold brk laterM
  rw [if_neg (by decide), if_neg (by decide), if_neg (by decide), tris_len]
  constructor
  · rintro ⟨j, a, b, c, m⟩
    refine ⟨j, a, b, c, (Wm.meetC_iff (hd i) (hd j)).mpr ?_⟩
    rw [corner_eq hn, corner_eq hn, corner_eq hn, corner_eq hn]
    exact m
  · rintro ⟨j, a, b, c, m⟩
    refine ⟨j, a, b, c, ?_⟩
    have m := (Wm.meetC_iff (hd i) (hd j)).mp m
    rw [corner_eq hn, corner_eq hn, corner_eq hn, corner_eq hn] at m
    exact m
theorem first6 (hd : ∀ i, Wm.dirC ((Wm.theRoom ns).corner i) ((Wm.theRoom ns).corner (i + 1)) = true) (i : Nat) (hi : i < ns.length / 3 - 1) (hp : p6 (Wm.theRoom ns) i = true) : ∃ i', i' ≤ i ∧ brk (trisOf ns) 6 i' := by
  unfold p6 at hp
  rw [Wm.theRoom_n, List.any_eq_true] at hp
  obtain ⟨j, hj, q⟩ := hp
  have hj := List.mem_range.mp hj
  rw [Bool.and_eq_true] at q
  obtain ⟨nb, m⟩ := q
  have nb : neighbours (ns.length / 3 - 1) i j = false := by simpa using nb
  unfold neighbours at nb
  simp only [Bool.or_eq_false_iff, beq_eq_false_iff_ne] at nb
  obtain ⟨n1, n2, n3⟩ := nb
  rcases Nat.lt_or_ge i j with c | c
  · refine ⟨i, Nat.le_refl _, (b6 hn hd i).mpr ⟨j, ?_, hj, n3, m⟩⟩
    rcases Nat.lt_or_ge j (i + 2) with d | d
    · have : j = i + 1 := by omega
      subst this
      exact absurd (Nat.mod_eq_of_lt hj) n2
    · exact d
  · have c : j < i := by omega
    refine ⟨j, by omega, (b6 hn hd j).mpr ⟨i, ?_, hi, n2, ?_⟩⟩
    · rcases Nat.lt_or_ge i (j + 2) with d | d
      · have : i = j + 1 := by omega
        subst this
        exact absurd (Nat.mod_eq_of_lt hi) n3
      · exact d
    · exact (Wm.meetC_iff (hd j) (hd i)).mpr (Wm.meetP_symm.mp ((Wm.meetC_iff (hd i) (hd j)).mp m))
theorem some6 (hd : ∀ i, Wm.dirC ((Wm.theRoom ns).corner i) ((Wm.theRoom ns).corner (i + 1)) = true) (i : Nat) (hi : i < ns.length / 3 - 1) (h : brk (trisOf ns) 6 i) : p6 (Wm.theRoom ns) i = true := by
  obtain ⟨j, a, b, c, m⟩ := (b6 hn hd i).mp h
  unfold p6
  rw [Wm.theRoom_n, List.any_eq_true]
  refine ⟨j, List.mem_range.mpr b, ?_⟩
  rw [m, Bool.and_true]
  unfold neighbours
  have e : (i + 1) % (ns.length / 3 - 1) = i + 1 := Nat.mod_eq_of_lt (by omega)
  rw [e]
  have e1 : (i == j) = false := beq_eq_false_iff_ne.mpr (by omega)
  have e2 : (i + 1 == j) = false := beq_eq_false_iff_ne.mpr (by omega)
  have e3 : ((j + 1) % (ns.length / 3 - 1) == i) = false := beq_eq_false_iff_ne.mpr c
  rw [e1, e2, e3]
  rfl
theorem area_eq : (Wm.theRoom ns).area2 = areaTo (trisOf ns) (ns.length / 3 - 1) := by
  unfold Room.area2
  rw [Wm.theRoom_n, Wm.foldr_sm]
  have : ∀ m, Wm.sm (fun i => ((Wm.theRoom ns).corner i).x * ((Wm.theRoom ns).corner (i + 1)).y - ((Wm.theRoom ns).corner (i + 1)).x * ((Wm.theRoom ns).corner i).y) m = areaTo (trisOf ns) m := by
    intro m
    induction m with
    | zero => rfl
    | succ m ih =>
      show Wm.sm _ m + (((Wm.theRoom ns).corner m).x * ((Wm.theRoom ns).corner (m + 1)).y - ((Wm.theRoom ns).corner (m + 1)).x * ((Wm.theRoom ns).corner m).y) = areaTo (trisOf ns) m + _ - _
      rw [ih, corner_eq hn, corner_eq hn]
      show areaTo (trisOf ns) m + ((atC (trisOf ns) m).1 * (atC (trisOf ns) (m + 1)).2.1 - (atC (trisOf ns) (m + 1)).1 * (atC (trisOf ns) m).2.1) = _
      omega
  exact this _
end
theorem corner_mod (r : Room) (i j : Nat) : r.corner (i % r.n + j) = r.corner (i + j) := by
  rw [← Wm.corner_wrap r (i % r.n + j), ← Wm.corner_wrap r (i + j), Nat.mod_add_mod]
theorem faultC_eq (r : Room) : Wm.faultC r = if r.n < 3 ∨ MOST < r.n then some ⟨1, 0⟩ else if r.h < 1 ∨ WIDE < r.h ∨ STUFFS ≤ r.floor_ ∨ STUFFS ≤ r.ceiling then some ⟨2, 0⟩
  else match (List.range r.n).find? (p3 r) with
  | some i => some ⟨3, i⟩
  | none => match (List.range r.n).find? (p4 r) with
    | some i => some ⟨4, i⟩
    | none => match (List.range r.n).find? (p5 r) with
      | some i => some ⟨5, i⟩
      | none => match (List.range r.n).find? (p6 r) with
        | some i => some ⟨6, i⟩
        | none => if r.area2 ≤ 0 then some ⟨7, 0⟩ else none := rfl
theorem fault_due {ns : List Int} {o : Option (Nat × Nat)} (h : FaultIs ns o) : Wm.roomL ns = match o with
    | none => .ok (Wm.theRoom ns)
    | some (r, i) => .error ⟨r, i⟩ := by
  unfold Wm.roomL
  by_cases l : lenOk ns
  · have ⟨l3, l1, l2⟩ := l
    have hn : 0 < ns.length / 3 - 1 := by omega
    rw [if_neg (by omega), faultC_eq, Wm.theRoom_n, if_neg (by unfold MOST; omega)]
    have hh : ((Wm.theRoom ns).h < 1 ∨ WIDE < (Wm.theRoom ns).h ∨ STUFFS ≤ (Wm.theRoom ns).floor_ ∨ STUFFS ≤ (Wm.theRoom ns).ceiling) ↔ ¬ headOk ns := by
      have a := stuff8 (ns.getD 1 0)
      have b := stuff8 (ns.getD 2 0)
      show (ns.getD 0 0 < 1 ∨ WIDE < ns.getD 0 0 ∨ STUFFS ≤ stuffOf (ns.getD 1 0) ∨ STUFFS ≤ stuffOf (ns.getD 2 0)) ↔ _
      rw [a, b]
      unfold headOk WIDE
      omega
    by_cases hd : headOk ns
    · rw [if_neg (fun q => hh.mp q hd)]
      have tl := tris_len ns
      rcases h with ⟨q, _⟩ | ⟨_, q, _⟩ | ⟨_, _, r, i, r3, r6, hi, hb, hbr, hbi, rfl⟩ | ⟨_, _, hb, har⟩
      · exact absurd l q
      · exact absurd hd q
      · rw [tl] at hi hbr
        have none3 : 3 < r → (List.range (ns.length / 3 - 1)).find? (p3 (Wm.theRoom ns)) = none := fun q => Wm.find_nothing fun j hj => Bool.eq_false_iff.mpr fun z => hbr 3 j (by omega) q hj ((b3 hn j).mpr z)
        have none4 : 4 < r → (List.range (ns.length / 3 - 1)).find? (p4 (Wm.theRoom ns)) = none := fun q => Wm.find_nothing fun j hj => Bool.eq_false_iff.mpr fun z => hbr 4 j (by omega) q hj ((b4 hn j).mpr z)
        have none5 : 5 < r → (List.range (ns.length / 3 - 1)).find? (p5 (Wm.theRoom ns)) = none := fun q => Wm.find_nothing fun j hj => Bool.eq_false_iff.mpr fun z => hbr 5 j (by omega) q hj ((b5 hn j).mpr z)
        have dirs : 4 < r → ∀ i, Wm.dirC ((Wm.theRoom ns).corner i) ((Wm.theRoom ns).corner (i + 1)) = true := fun q i => by
          rw [← corner_mod _ i 1, ← Wm.corner_wrap, Wm.theRoom_n]
          have := mt (b4 hn (i % (ns.length / 3 - 1))).mpr (hbr 4 _ (by omega) q (Nat.mod_lt _ hn))
          unfold p4 at this
          simpa using this
        have : r = 3 ∨ r = 4 ∨ r = 5 ∨ r = 6 := by omega
        rcases this with rfl | rfl | rfl | rfl
        · rw [Wm.find_range hi ((b3 hn i).mp hb) fun j hj => Bool.eq_false_iff.mpr fun z => hbi j hj ((b3 hn j).mpr z)]
        · rw [none3 (by omega), Wm.find_range hi ((b4 hn i).mp hb) fun j hj => Bool.eq_false_iff.mpr fun z => hbi j hj ((b4 hn j).mpr z)]
        · rw [none3 (by omega), none4 (by omega), Wm.find_range hi ((b5 hn i).mp hb) fun j hj => Bool.eq_false_iff.mpr fun z => hbi j hj ((b5 hn j).mpr z)]
        · have d := dirs (by omega)
          rw [none3 (by omega), none4 (by omega), none5 (by omega), Wm.find_range hi (some6 hn d i hi hb) fun j hj => Bool.eq_false_iff.mpr fun z => ?_]
          obtain ⟨i', h1, h2⟩ := first6 hn d j (by omega) z
          exact hbi i' (by omega) h2
      · rw [tl] at hb har
        have dirs : ∀ i, Wm.dirC ((Wm.theRoom ns).corner i) ((Wm.theRoom ns).corner (i + 1)) = true := fun i => by
          rw [← corner_mod _ i 1, ← Wm.corner_wrap, Wm.theRoom_n]
          have := mt (b4 hn (i % (ns.length / 3 - 1))).mpr (hb 4 _ (by omega) (by omega) (Nat.mod_lt _ hn))
          unfold p4 at this
          simpa using this
        have bends : ∀ i, Wm.alongC ((Wm.theRoom ns).corner i) ((Wm.theRoom ns).corner (i + 1)) ((Wm.theRoom ns).corner (i + 1)) ((Wm.theRoom ns).corner (i + 2)) = false := fun i => by
          rw [← corner_mod _ i 1, ← corner_mod _ i 2, ← Wm.corner_wrap _ i, Wm.theRoom_n]
          exact Bool.eq_false_iff.mpr (mt (b5 hn (i % (ns.length / 3 - 1))).mpr (hb 5 _ (by omega) (by omega) (Nat.mod_lt _ hn)))
        have no6 : ∀ i, i < ns.length / 3 - 1 → p6 (Wm.theRoom ns) i = false := fun i hi => Bool.eq_false_iff.mpr fun z => by
          obtain ⟨i', h1, h2⟩ := first6 hn dirs i hi z
          exact hb 6 i' (by omega) (by omega) (by omega) h2
        have inr : ∀ i, (0 ≤ ((Wm.theRoom ns).corner i).x ∧ ((Wm.theRoom ns).corner i).x ≤ 4095) ∧ (0 ≤ ((Wm.theRoom ns).corner i).y ∧ ((Wm.theRoom ns).corner i).y ≤ 4095) := fun i => by
          rw [← Wm.corner_wrap, Wm.theRoom_n]
          have := mt (b3 hn (i % (ns.length / 3 - 1))).mpr (hb 3 _ (by omega) (by omega) (Nat.mod_lt _ hn))
          unfold p3 WIDE at this
          simp only [Bool.or_eq_true, decide_eq_true_iff] at this
          omega
        have pol : Wm.Poly (Wm.theRoom ns).corner (ns.length / 3 - 1) := {
          n3 := l1
          per := fun i => by
            rw [← Wm.corner_wrap _ (i + (ns.length / 3 - 1)), Wm.theRoom_n, Nat.add_mod_right]
            have := Wm.corner_wrap (Wm.theRoom ns) i
            rw [Wm.theRoom_n] at this
            exact this
          dir := dirs
          bend := bends
          apart := fun i j hi hj nb => by
            have := no6 i hi
            unfold p6 at this
            rw [Wm.theRoom_n] at this
            have := List.any_eq_false.mp this j (List.mem_range.mpr hj)
            rw [nb] at this
            simpa using this }
        have ne := pol.area_ne (fun i => (inr i).1) (fun i => (inr i).2)
        have ar := area_eq hn
        have an : (Wm.theRoom ns).area2 ≠ 0 := by
          unfold Room.area2
          rw [Wm.theRoom_n, Wm.foldr_sm]
          exact ne
        rw [Wm.find_nothing fun j hj => Bool.eq_false_iff.mpr fun z => hb 3 j (by omega) (by omega) hj ((b3 hn j).mpr z), Wm.find_nothing fun j hj => Bool.eq_false_iff.mpr fun z => hb 4 j (by omega) (by omega) hj ((b4 hn j).mpr z), Wm.find_nothing fun j hj => Bool.eq_false_iff.mpr fun z => hb 5 j (by omega) (by omega) hj ((b5 hn j).mpr z), Wm.find_nothing no6]
        rw [← ar] at har
        rcases har with ⟨q, rfl⟩ | ⟨q, rfl⟩
        · simp only [if_pos (show (Wm.theRoom ns).area2 ≤ 0 by omega)]
        · simp only [if_neg (show ¬ (Wm.theRoom ns).area2 ≤ 0 by omega)]
    · rw [if_pos (hh.mpr hd)]
      rcases h with ⟨q, _⟩ | ⟨_, _, rfl⟩ | ⟨_, q, _⟩ | ⟨_, q, _⟩
      · exact absurd l q
      · rfl
      · exact absurd q hd
      · exact absurd q hd
  · have e : o = some (1, 0) := by
      rcases h with ⟨_, e⟩ | ⟨q, _⟩ | ⟨q, _⟩ | ⟨q, _⟩
      · exact e
      · exact absurd q l
      · exact absurd q l
      · exact absurd q l
    subst e
    by_cases c : ns.length < 3 ∨ ns.length % 3 ≠ 0
    · rw [if_pos c]
    · rw [if_neg c, faultC_eq, Wm.theRoom_n, if_pos ?_]
      unfold lenOk at l
      unfold MOST
      omega
end Gn
set_option Elab.async false
set_option maxRecDepth 100000
set_option maxHeartbeats 4000000
namespace Gn
open Eh
theorem far_eq (q : Nat) : root (q / 1048576) = farBy q := by
  unfold farBy
  have ⟨a, b⟩ := Wm.root_spec q
  refine Wm.root_unique ?_ ?_
  · rw [Nat.le_div_iff_mul_le (by decide)]
    have c : root q / 1024 * 1024 ≤ root q := Nat.div_mul_le_self _ _
    have d := Nat.mul_le_mul c c
    have e : root q / 1024 * (root q / 1024) * 1048576 = root q / 1024 * 1024 * (root q / 1024 * 1024) := by
      generalize root q / 1024 = x
      have : (1048576 : Nat) = 1024 * 1024 := rfl
      rw [this]
      simp only [Nat.mul_assoc, Nat.mul_left_comm]
    omega
  · rw [Nat.div_lt_iff_lt_mul (by decide)]
    have c : root q + 1 ≤ (root q / 1024 + 1) * 1024 := by omega
    have d := Nat.mul_le_mul c c
    have e : (root q / 1024 + 1) * 1024 * ((root q / 1024 + 1) * 1024) = (root q / 1024 + 1) * (root q / 1024 + 1) * 1048576 := by
      generalize root q / 1024 + 1 = x
      have : (1048576 : Nat) = 1024 * 1024 := rfl
      rw [this]
      simp only [Nat.mul_assoc, Nat.mul_left_comm]
    omega
theorem nats_get (bk : List Int) (i : Nat) : (BaNeutral.nats bk).getD i 0 = (bk.getD i 0).toNat := by
  unfold BaNeutral.nats
  rw [List.getD_eq_getElem?_getD, List.getD_eq_getElem?_getD, List.getElem?_map]
  cases bk[i]? <;> rfl
def bookC (bk : List Int) : Book := ⟨(BaNeutral.nats bk).take 32, (BaNeutral.nats bk).drop 32⟩
theorem back_eq (bk : List Int) {s b : Nat} (hs : s < 8) (hb : b < 4) : (bookC bk).backOf s b = (bk.getD (s * 4 + b) 0).toNat := by
  unfold Book.backOf bookC BANDS
  rw [← nats_get, List.getD_eq_getElem?_getD, List.getD_eq_getElem?_getD, List.getElem?_take, if_pos (by omega), Nat.mul_comm]
theorem air_eq (bk : List Int) (b : Nat) : (bookC bk).airOf b = (bk.getD (32 + b) 0).toNat := by
  unfold Book.airOf bookC
  rw [← nats_get, List.getD_eq_getElem?_getD, List.getD_eq_getElem?_getD, List.getElem?_drop]
theorem stuffOf_nat {z : Int} (h : 0 ≤ z) : stuffOf z = z.toNat := if_neg (by omega)
theorem stuff_eq {ns : List Int} (h : FaultIs ns none) {w : Nat} (hw : w < ns.length / 3 + 1) : (Wm.theRoom ns).stuff w = (stuffM ns w).toNat := by
  have sk := stuff_ok h hw
  have ⟨⟨h3, hl, hl2⟩, _⟩ := fault_none h
  unfold Room.stuff
  rw [Wm.theRoom_n]
  unfold stuffM at *
  by_cases c : w < ns.length / 3 - 1
  · rw [if_pos c, if_pos c, Wm.theRoom_corner _ _ c]
    rw [if_pos c] at sk
    exact stuffOf_nat sk.1
  · rw [if_neg c, if_neg c]
    rw [if_neg c] at sk
    by_cases d : w = ns.length / 3 - 1
    · have e : 1 + w - (ns.length / 3 - 1) = 1 := by omega
      rw [if_pos d, e]
      rw [e] at sk
      exact stuffOf_nat sk.1
    · have e : 1 + w - (ns.length / 3 - 1) = 2 := by omega
      rw [if_neg d, e]
      rw [e] at sk
      exact stuffOf_nat sk.1
theorem gain_eq {ns bk : List Int} (h : FaultIs ns none) (q : Nat) {ws : List Nat} (hw : ∀ x ∈ ws, x < ns.length / 3 + 1) {b : Nat} (hb : b < 4) :
    gainM q bk (ws.map fun x => (stuffM ns x).toNat) b = gain (Wm.theRoom ns) (bookC bk) b q ws := by
  have e : partsN q bk (ws.map fun x => (stuffM ns x).toNat) b = ws.map (fun (w : Nat) => (bookC bk).backOf ((Wm.theRoom ns).stuff w) b) ++ List.replicate (farBy q) ((bookC bk).airOf b) := by
    unfold partsN partsL
    rw [List.map_append, List.map_map, List.map_map, List.map_replicate, far_eq, air_eq]
    congr 1
    refine List.map_congr_left fun x hx => ?_
    have sk := stuff_ok h (hw x hx)
    rw [stuff_eq h (hw x hx), back_eq bk (by omega) hb]
    rfl
  unfold gainM gain part
  rw [e]
  rfl
theorem book_due (bk : List Int) : bookOf (BaNeutral.nats bk) = match bookFault bk with
    | some m => .error m
    | none => .ok (bookC bk) := by
  unfold bookOf bookFault
  have l : (BaNeutral.nats bk).length = bk.length := List.length_map ..
  have f : ((BaNeutral.nats bk).findIdx? fun (x : Nat) => decide (WHOLE < x)) = bk.findIdx? fun x => decide (32768 < x) := by
    unfold BaNeutral.nats
    rw [List.findIdx?_map]
    congr 1
    funext x
    show decide (WHOLE < x.toNat) = decide (32768 < x)
    rw [decide_eq_decide]
    unfold WHOLE
    omega
  rw [l, f]
  by_cases c : bk.length ≠ 36
  · rw [if_pos c, if_pos (show bk.length ≠ BANDS * STUFFS + BANDS from c)]
  · rw [if_neg c, if_neg (show ¬ bk.length ≠ BANDS * STUFFS + BANDS from c)]
    cases bk.findIdx? fun x => decide (32768 < x) with
    | none => rfl
    | some m => rfl
theorem gains_eq {q : Nat} {ns bk ws l : List Int} (hb : ∀ x ∈ bk, 0 ≤ x) (hw : ∀ x ∈ ws, 0 ≤ x) (h : GainsIs q ns bk ws l) : PyYqbeca.gains (q : Int) ns bk ws = l := by
  rw [Wm.gains_due (by omega) hb hw]
  unfold Wm.ofL
  have cond : (4 < ws.length ∨ ((BaNeutral.nats ws).any fun (x : Nat) => decide ((Wm.theRoom ns).n + 2 ≤ x)) = true) ↔ ¬ (ws.length ≤ 4 ∧ ∀ x ∈ ws, x < (((ns.length / 3 - 1) + 2 : Nat) : Int)) := by
    rw [Wm.theRoom_n]
    constructor
    · rintro (a | a)
      · omega
      · rintro ⟨_, c⟩
        obtain ⟨x, hx, e⟩ := List.any_eq_true.mp a
        obtain ⟨y, hy, rfl⟩ := List.mem_map.mp hx
        have := c y hy
        have := hw y hy
        simp at e
        omega
    · intro a
      by_cases c : ws.length ≤ 4
      · refine .inr (Classical.byContradiction fun z => a ⟨c, fun x hx => ?_⟩)
        have h0 := hw x hx
        have := List.any_eq_false.mp (Bool.eq_false_iff.mpr z) x.toNat (List.mem_map.mpr ⟨x, hx, rfl⟩)
        simp at this
        omega
      · exact .inl (by omega)
  rcases h with ⟨r, hr, rfl⟩ | ⟨hr, h⟩
  · rcases hr with ⟨r, i, hf, e⟩ | ⟨hf, ⟨m, hbf, e⟩ | ⟨_, e⟩⟩
    · cases e
      rw [fault_due hf]
    · cases e
      rw [fault_due hf]
      simp only [book_due, hbf]
    · cases e
  · obtain ⟨hf, hbf⟩ := ref_none hr
    obtain ⟨⟨h3, hl1, hl2⟩, _⟩ := fault_none hf
    rw [fault_due hf]
    simp only [book_due, hbf]
    have en : (ns.length / 3 - 1) + 2 = ns.length / 3 + 1 := by omega
    rw [en] at cond
    rcases h with ⟨nw, rfl⟩ | ⟨wk, h⟩
    · rw [if_pos (cond.mpr nw)]
    · rw [if_neg (fun z => cond.mp z wk), Int.toNat_natCast]
      rcases h with ⟨c, rfl⟩ | ⟨c, rfl⟩
      · rw [if_pos c]
      · rw [if_neg (by omega)]
        congr 1
        refine List.map_congr_left fun b hb4 => ?_
        have e : ws.map (fun x => (stuffM ns x.toNat).toNat) = (BaNeutral.nats ws).map fun x => (stuffM ns x).toNat := by
          unfold BaNeutral.nats
          rw [List.map_map]
          rfl
        rw [e, gain_eq hf q (fun x hx => ?_) (List.mem_range.mp hb4)]
        obtain ⟨y, hy, rfl⟩ := List.mem_map.mp hx
        have := wk.2 y hy
        have := hw y hy
        omega
end Gn
set_option Elab.async false
set_option maxRecDepth 100000
set_option maxHeartbeats 4000000
namespace Gn
open PySem PySem.Spec PyProof.Rows L2 Lw
open PySem.W (Codec WData)
section
variable {P : Program} {w : World} {K : PySem.W.Frag} {mg : Str → Option Value} {base : Heap}
theorem ok_the_fault (T : Txt mg) (A_list_corners : At K mg "list_corners" s_list_corners ["room"]) (A_has_right_length : At K mg "has_right_length" s_has_right_length ["room"]) (A_is_place : At K mg "is_place" s_is_place ["number"]) (A_is_stuff : At K mg "is_stuff" s_is_stuff ["number"]) (A_has_right_head : At K mg "has_right_head" s_has_right_head ["room"])
    (A_is_corner : At K mg "is_corner" s_is_corner ["corner"]) (A_find_ends : At K mg "find_ends" s_find_ends ["corners", "line"]) (A_find_run : At K mg "find_run" s_find_run ["corners", "line"]) (A_runs_in_a_direction : At K mg "runs_in_a_direction" s_runs_in_a_direction ["corners", "line"]) (A_goes_straight_on : At K mg "goes_straight_on" s_goes_straight_on ["corners", "line"])
    (A_find_side : At K mg "find_side" s_find_side ["start", "end", "point"]) (A_ranges_meet : At K mg "ranges_meet" s_ranges_meet ["first", "second", "axis"]) (A_reaches_across : At K mg "reaches_across" s_reaches_across ["first", "second"]) (A_lines_meet : At K mg "lines_meet" s_lines_meet ["first", "second"])
    (A_meets_a_later_line : At K mg "meets_a_later_line" s_meets_a_later_line ["corners", "line"]) (A_breaks_rule : At K mg "breaks_rule" s_breaks_rule ["corners", "rule", "wall"]) (A_measure_twice : At K mg "measure_twice" s_measure_twice ["corners"]) (A_find_room_fault : At K mg "find_room_fault" s_find_room_fault ["room"]) :
    Def P w K mg base "find_room_fault" 6 ["room"] (spRoomFault K) := by
  have de := ok_find_ends (P := P) (w := w) (base := base) A_find_ends T
  have ds := ok_is_stuff (P := P) (w := w) (base := base) A_is_stuff T
  have dr := ok_find_run A_find_run T de
  refine ok_find_room_fault A_find_room_fault T (ok_has_right_length A_has_right_length T) (ok_has_right_head A_has_right_head T ds) (ok_list_corners A_list_corners T) ?_ (ok_measure_twice A_measure_twice T de)
  exact ok_breaks_rule A_breaks_rule T (ok_is_corner A_is_corner T (ok_is_place A_is_place T) ds) (ok_runs_in_a_direction A_runs_in_a_direction T dr) (ok_goes_straight_on A_goes_straight_on T dr)
    (ok_meets_a_later_line A_meets_a_later_line T de (ok_lines_meet A_lines_meet T (ok_ranges_meet A_ranges_meet T) (ok_reaches_across A_reaches_across T (ok_find_side A_find_side T))))
end
theorem all_mk {P : Program} {w : World} {K : PySem.W.Frag} {h : Heap} {mg : Str → Option Value} {fa : Addr} (X : K.In h) (G : h.Ns mainGlobals mg) (hfa : mg "gains" = some (.ref fa))
    (nb_abs : PySem.W.nsIn K mainGlobals "abs" = some none)
    (nb_all : PySem.W.nsIn K mainGlobals "all" = some none)
    (nb_enumerate : PySem.W.nsIn K mainGlobals "enumerate" = some none)
    (nb_len : PySem.W.nsIn K mainGlobals "len" = some none)
    (nb_max : PySem.W.nsIn K mainGlobals "max" = some none)
    (nb_min : PySem.W.nsIn K mainGlobals "min" = some none)
    (nb_range : PySem.W.nsIn K mainGlobals "range" = some none)
    {tk_AIR_PLACE : Tok} (nc_AIR_PLACE : PySem.W.nsIn K mainGlobals "AIR_PLACE" = some (some (.int (32) tk_AIR_PLACE)))
    {tk_AIR_STEP : Tok} (nc_AIR_STEP : PySem.W.nsIn K mainGlobals "AIR_STEP" = some (some (.int (1024) tk_AIR_STEP)))
    {tk_BANDS : Tok} (nc_BANDS : PySem.W.nsIn K mainGlobals "BANDS" = some (some (.int (4) tk_BANDS)))
    {tk_BOOK_LENGTH : Tok} (nc_BOOK_LENGTH : PySem.W.nsIn K mainGlobals "BOOK_LENGTH" = some (some (.int (36) tk_BOOK_LENGTH)))
    {tk_FEWEST_CORNERS : Tok} (nc_FEWEST_CORNERS : PySem.W.nsIn K mainGlobals "FEWEST_CORNERS" = some (some (.int (3) tk_FEWEST_CORNERS)))
    {tk_FINE : Tok} (nc_FINE : PySem.W.nsIn K mainGlobals "FINE" = some (some (.int (0) tk_FINE)))
    {tk_GREATEST_GAIN : Tok} (nc_GREATEST_GAIN : PySem.W.nsIn K mainGlobals "GREATEST_GAIN" = some (some (.int (4294967296) tk_GREATEST_GAIN)))
    {tk_GREATEST_LENGTH2 : Tok} (nc_GREATEST_LENGTH2 : PySem.W.nsIn K mainGlobals "GREATEST_LENGTH2" = some (some (.int (1099511627776) tk_GREATEST_LENGTH2)))
    {tk_GREATEST_PLACE : Tok} (nc_GREATEST_PLACE : PySem.W.nsIn K mainGlobals "GREATEST_PLACE" = some (some (.int (4095) tk_GREATEST_PLACE)))
    {tk_GREATEST_STUFF : Tok} (nc_GREATEST_STUFF : PySem.W.nsIn K mainGlobals "GREATEST_STUFF" = some (some (.int (7) tk_GREATEST_STUFF)))
    {tk_MOST_CORNERS : Tok} (nc_MOST_CORNERS : PySem.W.nsIn K mainGlobals "MOST_CORNERS" = some (some (.int (64) tk_MOST_CORNERS)))
    {tk_MOST_TURNS : Tok} (nc_MOST_TURNS : PySem.W.nsIn K mainGlobals "MOST_TURNS" = some (some (.int (4) tk_MOST_TURNS)))
    {tk_NO_BOOK : Tok} (nc_NO_BOOK : PySem.W.nsIn K mainGlobals "NO_BOOK" = some (some (.int (-6) tk_NO_BOOK)))
    {tk_NO_ROOM : Tok} (nc_NO_ROOM : PySem.W.nsIn K mainGlobals "NO_ROOM" = some (some (.int (-5) tk_NO_ROOM)))
    {tk_OUT_OF_RANGE : Tok} (nc_OUT_OF_RANGE : PySem.W.nsIn K mainGlobals "OUT_OF_RANGE" = some (some (.int (-1) tk_OUT_OF_RANGE)))
    {tk_TOO_LONG : Tok} (nc_TOO_LONG : PySem.W.nsIn K mainGlobals "TOO_LONG" = some (some (.int (-4) tk_TOO_LONG)))
    {tk_WHOLE_PART : Tok} (nc_WHOLE_PART : PySem.W.nsIn K mainGlobals "WHOLE_PART" = some (some (.int (32768) tk_WHOLE_PART)))
    {f_find_book_fault : Addr} {od_find_book_fault an_find_book_fault : Option Addr} {sl_find_book_fault : Array (Option Value)} {oc_find_book_fault kV_find_book_fault dc_find_book_fault pm_find_book_fault cd_find_book_fault ct_find_book_fault : Value}
    (a_find_book_fault : PySem.W.nsIn K mainGlobals "find_book_fault" = some (some (.ref f_find_book_fault))) (l_find_book_fault : K.lookup f_find_book_fault = some ⟨oc_find_book_fault, od_find_book_fault, .func (PySem.W.fnOf "find_book_fault" "find_book_fault" (defArgs s_find_book_fault) (defBody s_find_book_fault) (defScope s_find_book_fault) .none kV_find_book_fault dc_find_book_fault pm_find_book_fault an_find_book_fault cd_find_book_fault ct_find_book_fault), sl_find_book_fault⟩) (c_find_book_fault : PySem.W.codeIn K cd_find_book_fault "find_book_fault" = true) (k_find_book_fault : PySem.W.keepIn K (.ref f_find_book_fault) = true)
    {f_find_root : Addr} {od_find_root an_find_root : Option Addr} {sl_find_root : Array (Option Value)} {oc_find_root kV_find_root dc_find_root pm_find_root cd_find_root ct_find_root : Value}
    (a_find_root : PySem.W.nsIn K mainGlobals "find_root" = some (some (.ref f_find_root))) (l_find_root : K.lookup f_find_root = some ⟨oc_find_root, od_find_root, .func (PySem.W.fnOf "find_root" "find_root" (defArgs s_find_root) (defBody s_find_root) (defScope s_find_root) .none kV_find_root dc_find_root pm_find_root an_find_root cd_find_root ct_find_root), sl_find_root⟩) (c_find_root : PySem.W.codeIn K cd_find_root "find_root" = true) (k_find_root : PySem.W.keepIn K (.ref f_find_root) = true)
    {f_list_parts : Addr} {od_list_parts an_list_parts : Option Addr} {sl_list_parts : Array (Option Value)} {oc_list_parts kV_list_parts dc_list_parts pm_list_parts cd_list_parts ct_list_parts : Value}
    (a_list_parts : PySem.W.nsIn K mainGlobals "list_parts" = some (some (.ref f_list_parts))) (l_list_parts : K.lookup f_list_parts = some ⟨oc_list_parts, od_list_parts, .func (PySem.W.fnOf "list_parts" "list_parts" (defArgs s_list_parts) (defBody s_list_parts) (defScope s_list_parts) .none kV_list_parts dc_list_parts pm_list_parts an_list_parts cd_list_parts ct_list_parts), sl_list_parts⟩) (c_list_parts : PySem.W.codeIn K cd_list_parts "list_parts" = true) (k_list_parts : PySem.W.keepIn K (.ref f_list_parts) = true)
    {f_find_gain : Addr} {od_find_gain an_find_gain : Option Addr} {sl_find_gain : Array (Option Value)} {oc_find_gain kV_find_gain dc_find_gain pm_find_gain cd_find_gain ct_find_gain : Value}
    (a_find_gain : PySem.W.nsIn K mainGlobals "find_gain" = some (some (.ref f_find_gain))) (l_find_gain : K.lookup f_find_gain = some ⟨oc_find_gain, od_find_gain, .func (PySem.W.fnOf "find_gain" "find_gain" (defArgs s_find_gain) (defBody s_find_gain) (defScope s_find_gain) .none kV_find_gain dc_find_gain pm_find_gain an_find_gain cd_find_gain ct_find_gain), sl_find_gain⟩) (c_find_gain : PySem.W.codeIn K cd_find_gain "find_gain" = true) (k_find_gain : PySem.W.keepIn K (.ref f_find_gain) = true)
    {f_list_corners : Addr} {od_list_corners an_list_corners : Option Addr} {sl_list_corners : Array (Option Value)} {oc_list_corners kV_list_corners dc_list_corners pm_list_corners cd_list_corners ct_list_corners : Value}
    (a_list_corners : PySem.W.nsIn K mainGlobals "list_corners" = some (some (.ref f_list_corners))) (l_list_corners : K.lookup f_list_corners = some ⟨oc_list_corners, od_list_corners, .func (PySem.W.fnOf "list_corners" "list_corners" (defArgs s_list_corners) (defBody s_list_corners) (defScope s_list_corners) .none kV_list_corners dc_list_corners pm_list_corners an_list_corners cd_list_corners ct_list_corners), sl_list_corners⟩) (c_list_corners : PySem.W.codeIn K cd_list_corners "list_corners" = true) (k_list_corners : PySem.W.keepIn K (.ref f_list_corners) = true)
    {f_count_walls : Addr} {od_count_walls an_count_walls : Option Addr} {sl_count_walls : Array (Option Value)} {oc_count_walls kV_count_walls dc_count_walls pm_count_walls cd_count_walls ct_count_walls : Value}
    (a_count_walls : PySem.W.nsIn K mainGlobals "count_walls" = some (some (.ref f_count_walls))) (l_count_walls : K.lookup f_count_walls = some ⟨oc_count_walls, od_count_walls, .func (PySem.W.fnOf "count_walls" "count_walls" (defArgs s_count_walls) (defBody s_count_walls) (defScope s_count_walls) .none kV_count_walls dc_count_walls pm_count_walls an_count_walls cd_count_walls ct_count_walls), sl_count_walls⟩) (c_count_walls : PySem.W.codeIn K cd_count_walls "count_walls" = true) (k_count_walls : PySem.W.keepIn K (.ref f_count_walls) = true)
    {f_find_stuff : Addr} {od_find_stuff an_find_stuff : Option Addr} {sl_find_stuff : Array (Option Value)} {oc_find_stuff kV_find_stuff dc_find_stuff pm_find_stuff cd_find_stuff ct_find_stuff : Value}
    (a_find_stuff : PySem.W.nsIn K mainGlobals "find_stuff" = some (some (.ref f_find_stuff))) (l_find_stuff : K.lookup f_find_stuff = some ⟨oc_find_stuff, od_find_stuff, .func (PySem.W.fnOf "find_stuff" "find_stuff" (defArgs s_find_stuff) (defBody s_find_stuff) (defScope s_find_stuff) .none kV_find_stuff dc_find_stuff pm_find_stuff an_find_stuff cd_find_stuff ct_find_stuff), sl_find_stuff⟩) (c_find_stuff : PySem.W.codeIn K cd_find_stuff "find_stuff" = true) (k_find_stuff : PySem.W.keepIn K (.ref f_find_stuff) = true)
    {f_has_right_length : Addr} {od_has_right_length an_has_right_length : Option Addr} {sl_has_right_length : Array (Option Value)} {oc_has_right_length kV_has_right_length dc_has_right_length pm_has_right_length cd_has_right_length ct_has_right_length : Value}
    (a_has_right_length : PySem.W.nsIn K mainGlobals "has_right_length" = some (some (.ref f_has_right_length))) (l_has_right_length : K.lookup f_has_right_length = some ⟨oc_has_right_length, od_has_right_length, .func (PySem.W.fnOf "has_right_length" "has_right_length" (defArgs s_has_right_length) (defBody s_has_right_length) (defScope s_has_right_length) .none kV_has_right_length dc_has_right_length pm_has_right_length an_has_right_length cd_has_right_length ct_has_right_length), sl_has_right_length⟩) (c_has_right_length : PySem.W.codeIn K cd_has_right_length "has_right_length" = true) (k_has_right_length : PySem.W.keepIn K (.ref f_has_right_length) = true)
    {f_is_place : Addr} {od_is_place an_is_place : Option Addr} {sl_is_place : Array (Option Value)} {oc_is_place kV_is_place dc_is_place pm_is_place cd_is_place ct_is_place : Value}
    (a_is_place : PySem.W.nsIn K mainGlobals "is_place" = some (some (.ref f_is_place))) (l_is_place : K.lookup f_is_place = some ⟨oc_is_place, od_is_place, .func (PySem.W.fnOf "is_place" "is_place" (defArgs s_is_place) (defBody s_is_place) (defScope s_is_place) .none kV_is_place dc_is_place pm_is_place an_is_place cd_is_place ct_is_place), sl_is_place⟩) (c_is_place : PySem.W.codeIn K cd_is_place "is_place" = true) (k_is_place : PySem.W.keepIn K (.ref f_is_place) = true)
    {f_is_stuff : Addr} {od_is_stuff an_is_stuff : Option Addr} {sl_is_stuff : Array (Option Value)} {oc_is_stuff kV_is_stuff dc_is_stuff pm_is_stuff cd_is_stuff ct_is_stuff : Value}
    (a_is_stuff : PySem.W.nsIn K mainGlobals "is_stuff" = some (some (.ref f_is_stuff))) (l_is_stuff : K.lookup f_is_stuff = some ⟨oc_is_stuff, od_is_stuff, .func (PySem.W.fnOf "is_stuff" "is_stuff" (defArgs s_is_stuff) (defBody s_is_stuff) (defScope s_is_stuff) .none kV_is_stuff dc_is_stuff pm_is_stuff an_is_stuff cd_is_stuff ct_is_stuff), sl_is_stuff⟩) (c_is_stuff : PySem.W.codeIn K cd_is_stuff "is_stuff" = true) (k_is_stuff : PySem.W.keepIn K (.ref f_is_stuff) = true)
    {f_has_right_head : Addr} {od_has_right_head an_has_right_head : Option Addr} {sl_has_right_head : Array (Option Value)} {oc_has_right_head kV_has_right_head dc_has_right_head pm_has_right_head cd_has_right_head ct_has_right_head : Value}
    (a_has_right_head : PySem.W.nsIn K mainGlobals "has_right_head" = some (some (.ref f_has_right_head))) (l_has_right_head : K.lookup f_has_right_head = some ⟨oc_has_right_head, od_has_right_head, .func (PySem.W.fnOf "has_right_head" "has_right_head" (defArgs s_has_right_head) (defBody s_has_right_head) (defScope s_has_right_head) .none kV_has_right_head dc_has_right_head pm_has_right_head an_has_right_head cd_has_right_head ct_has_right_head), sl_has_right_head⟩) (c_has_right_head : PySem.W.codeIn K cd_has_right_head "has_right_head" = true) (k_has_right_head : PySem.W.keepIn K (.ref f_has_right_head) = true)
    {f_is_corner : Addr} {od_is_corner an_is_corner : Option Addr} {sl_is_corner : Array (Option Value)} {oc_is_corner kV_is_corner dc_is_corner pm_is_corner cd_is_corner ct_is_corner : Value}
    (a_is_corner : PySem.W.nsIn K mainGlobals "is_corner" = some (some (.ref f_is_corner))) (l_is_corner : K.lookup f_is_corner = some ⟨oc_is_corner, od_is_corner, .func (PySem.W.fnOf "is_corner" "is_corner" (defArgs s_is_corner) (defBody s_is_corner) (defScope s_is_corner) .none kV_is_corner dc_is_corner pm_is_corner an_is_corner cd_is_corner ct_is_corner), sl_is_corner⟩) (c_is_corner : PySem.W.codeIn K cd_is_corner "is_corner" = true) (k_is_corner : PySem.W.keepIn K (.ref f_is_corner) = true)
    {f_find_ends : Addr} {od_find_ends an_find_ends : Option Addr} {sl_find_ends : Array (Option Value)} {oc_find_ends kV_find_ends dc_find_ends pm_find_ends cd_find_ends ct_find_ends : Value}
    (a_find_ends : PySem.W.nsIn K mainGlobals "find_ends" = some (some (.ref f_find_ends))) (l_find_ends : K.lookup f_find_ends = some ⟨oc_find_ends, od_find_ends, .func (PySem.W.fnOf "find_ends" "find_ends" (defArgs s_find_ends) (defBody s_find_ends) (defScope s_find_ends) .none kV_find_ends dc_find_ends pm_find_ends an_find_ends cd_find_ends ct_find_ends), sl_find_ends⟩) (c_find_ends : PySem.W.codeIn K cd_find_ends "find_ends" = true) (k_find_ends : PySem.W.keepIn K (.ref f_find_ends) = true)
    {f_find_run : Addr} {od_find_run an_find_run : Option Addr} {sl_find_run : Array (Option Value)} {oc_find_run kV_find_run dc_find_run pm_find_run cd_find_run ct_find_run : Value}
    (a_find_run : PySem.W.nsIn K mainGlobals "find_run" = some (some (.ref f_find_run))) (l_find_run : K.lookup f_find_run = some ⟨oc_find_run, od_find_run, .func (PySem.W.fnOf "find_run" "find_run" (defArgs s_find_run) (defBody s_find_run) (defScope s_find_run) .none kV_find_run dc_find_run pm_find_run an_find_run cd_find_run ct_find_run), sl_find_run⟩) (c_find_run : PySem.W.codeIn K cd_find_run "find_run" = true) (k_find_run : PySem.W.keepIn K (.ref f_find_run) = true)
    {f_runs_in_a_direction : Addr} {od_runs_in_a_direction an_runs_in_a_direction : Option Addr} {sl_runs_in_a_direction : Array (Option Value)} {oc_runs_in_a_direction kV_runs_in_a_direction dc_runs_in_a_direction pm_runs_in_a_direction cd_runs_in_a_direction ct_runs_in_a_direction : Value}
    (a_runs_in_a_direction : PySem.W.nsIn K mainGlobals "runs_in_a_direction" = some (some (.ref f_runs_in_a_direction))) (l_runs_in_a_direction : K.lookup f_runs_in_a_direction = some ⟨oc_runs_in_a_direction, od_runs_in_a_direction, .func (PySem.W.fnOf "runs_in_a_direction" "runs_in_a_direction" (defArgs s_runs_in_a_direction) (defBody s_runs_in_a_direction) (defScope s_runs_in_a_direction) .none kV_runs_in_a_direction dc_runs_in_a_direction pm_runs_in_a_direction an_runs_in_a_direction cd_runs_in_a_direction ct_runs_in_a_direction), sl_runs_in_a_direction⟩) (c_runs_in_a_direction : PySem.W.codeIn K cd_runs_in_a_direction "runs_in_a_direction" = true) (k_runs_in_a_direction : PySem.W.keepIn K (.ref f_runs_in_a_direction) = true)
    {f_goes_straight_on : Addr} {od_goes_straight_on an_goes_straight_on : Option Addr} {sl_goes_straight_on : Array (Option Value)} {oc_goes_straight_on kV_goes_straight_on dc_goes_straight_on pm_goes_straight_on cd_goes_straight_on ct_goes_straight_on : Value}
    (a_goes_straight_on : PySem.W.nsIn K mainGlobals "goes_straight_on" = some (some (.ref f_goes_straight_on))) (l_goes_straight_on : K.lookup f_goes_straight_on = some ⟨oc_goes_straight_on, od_goes_straight_on, .func (PySem.W.fnOf "goes_straight_on" "goes_straight_on" (defArgs s_goes_straight_on) (defBody s_goes_straight_on) (defScope s_goes_straight_on) .none kV_goes_straight_on dc_goes_straight_on pm_goes_straight_on an_goes_straight_on cd_goes_straight_on ct_goes_straight_on), sl_goes_straight_on⟩) (c_goes_straight_on : PySem.W.codeIn K cd_goes_straight_on "goes_straight_on" = true) (k_goes_straight_on : PySem.W.keepIn K (.ref f_goes_straight_on) = true)
    {f_find_side : Addr} {od_find_side an_find_side : Option Addr} {sl_find_side : Array (Option Value)} {oc_find_side kV_find_side dc_find_side pm_find_side cd_find_side ct_find_side : Value}
    (a_find_side : PySem.W.nsIn K mainGlobals "find_side" = some (some (.ref f_find_side))) (l_find_side : K.lookup f_find_side = some ⟨oc_find_side, od_find_side, .func (PySem.W.fnOf "find_side" "find_side" (defArgs s_find_side) (defBody s_find_side) (defScope s_find_side) .none kV_find_side dc_find_side pm_find_side an_find_side cd_find_side ct_find_side), sl_find_side⟩) (c_find_side : PySem.W.codeIn K cd_find_side "find_side" = true) (k_find_side : PySem.W.keepIn K (.ref f_find_side) = true)
    {f_ranges_meet : Addr} {od_ranges_meet an_ranges_meet : Option Addr} {sl_ranges_meet : Array (Option Value)} {oc_ranges_meet kV_ranges_meet dc_ranges_meet pm_ranges_meet cd_ranges_meet ct_ranges_meet : Value}
    (a_ranges_meet : PySem.W.nsIn K mainGlobals "ranges_meet" = some (some (.ref f_ranges_meet))) (l_ranges_meet : K.lookup f_ranges_meet = some ⟨oc_ranges_meet, od_ranges_meet, .func (PySem.W.fnOf "ranges_meet" "ranges_meet" (defArgs s_ranges_meet) (defBody s_ranges_meet) (defScope s_ranges_meet) .none kV_ranges_meet dc_ranges_meet pm_ranges_meet an_ranges_meet cd_ranges_meet ct_ranges_meet), sl_ranges_meet⟩) (c_ranges_meet : PySem.W.codeIn K cd_ranges_meet "ranges_meet" = true) (k_ranges_meet : PySem.W.keepIn K (.ref f_ranges_meet) = true)
    {f_reaches_across : Addr} {od_reaches_across an_reaches_across : Option Addr} {sl_reaches_across : Array (Option Value)} {oc_reaches_across kV_reaches_across dc_reaches_across pm_reaches_across cd_reaches_across ct_reaches_across : Value}
    (a_reaches_across : PySem.W.nsIn K mainGlobals "reaches_across" = some (some (.ref f_reaches_across))) (l_reaches_across : K.lookup f_reaches_across = some ⟨oc_reaches_across, od_reaches_across, .func (PySem.W.fnOf "reaches_across" "reaches_across" (defArgs s_reaches_across) (defBody s_reaches_across) (defScope s_reaches_across) .none kV_reaches_across dc_reaches_across pm_reaches_across an_reaches_across cd_reaches_across ct_reaches_across), sl_reaches_across⟩) (c_reaches_across : PySem.W.codeIn K cd_reaches_across "reaches_across" = true) (k_reaches_across : PySem.W.keepIn K (.ref f_reaches_across) = true)
    {f_lines_meet : Addr} {od_lines_meet an_lines_meet : Option Addr} {sl_lines_meet : Array (Option Value)} {oc_lines_meet kV_lines_meet dc_lines_meet pm_lines_meet cd_lines_meet ct_lines_meet : Value}
    (a_lines_meet : PySem.W.nsIn K mainGlobals "lines_meet" = some (some (.ref f_lines_meet))) (l_lines_meet : K.lookup f_lines_meet = some ⟨oc_lines_meet, od_lines_meet, .func (PySem.W.fnOf "lines_meet" "lines_meet" (defArgs s_lines_meet) (defBody s_lines_meet) (defScope s_lines_meet) .none kV_lines_meet dc_lines_meet pm_lines_meet an_lines_meet cd_lines_meet ct_lines_meet), sl_lines_meet⟩) (c_lines_meet : PySem.W.codeIn K cd_lines_meet "lines_meet" = true) (k_lines_meet : PySem.W.keepIn K (.ref f_lines_meet) = true)
    {f_meets_a_later_line : Addr} {od_meets_a_later_line an_meets_a_later_line : Option Addr} {sl_meets_a_later_line : Array (Option Value)} {oc_meets_a_later_line kV_meets_a_later_line dc_meets_a_later_line pm_meets_a_later_line cd_meets_a_later_line ct_meets_a_later_line : Value}
    (a_meets_a_later_line : PySem.W.nsIn K mainGlobals "meets_a_later_line" = some (some (.ref f_meets_a_later_line))) (l_meets_a_later_line : K.lookup f_meets_a_later_line = some ⟨oc_meets_a_later_line, od_meets_a_later_line, .func (PySem.W.fnOf "meets_a_later_line" "meets_a_later_line" (defArgs s_meets_a_later_line) (defBody s_meets_a_later_line) (defScope s_meets_a_later_line) .none kV_meets_a_later_line dc_meets_a_later_line pm_meets_a_later_line an_meets_a_later_line cd_meets_a_later_line ct_meets_a_later_line), sl_meets_a_later_line⟩) (c_meets_a_later_line : PySem.W.codeIn K cd_meets_a_later_line "meets_a_later_line" = true) (k_meets_a_later_line : PySem.W.keepIn K (.ref f_meets_a_later_line) = true)
    {f_breaks_rule : Addr} {od_breaks_rule an_breaks_rule : Option Addr} {sl_breaks_rule : Array (Option Value)} {oc_breaks_rule kV_breaks_rule dc_breaks_rule pm_breaks_rule cd_breaks_rule ct_breaks_rule : Value}
    (a_breaks_rule : PySem.W.nsIn K mainGlobals "breaks_rule" = some (some (.ref f_breaks_rule))) (l_breaks_rule : K.lookup f_breaks_rule = some ⟨oc_breaks_rule, od_breaks_rule, .func (PySem.W.fnOf "breaks_rule" "breaks_rule" (defArgs s_breaks_rule) (defBody s_breaks_rule) (defScope s_breaks_rule) .none kV_breaks_rule dc_breaks_rule pm_breaks_rule an_breaks_rule cd_breaks_rule ct_breaks_rule), sl_breaks_rule⟩) (c_breaks_rule : PySem.W.codeIn K cd_breaks_rule "breaks_rule" = true) (k_breaks_rule : PySem.W.keepIn K (.ref f_breaks_rule) = true)
    {f_measure_twice : Addr} {od_measure_twice an_measure_twice : Option Addr} {sl_measure_twice : Array (Option Value)} {oc_measure_twice kV_measure_twice dc_measure_twice pm_measure_twice cd_measure_twice ct_measure_twice : Value}
    (a_measure_twice : PySem.W.nsIn K mainGlobals "measure_twice" = some (some (.ref f_measure_twice))) (l_measure_twice : K.lookup f_measure_twice = some ⟨oc_measure_twice, od_measure_twice, .func (PySem.W.fnOf "measure_twice" "measure_twice" (defArgs s_measure_twice) (defBody s_measure_twice) (defScope s_measure_twice) .none kV_measure_twice dc_measure_twice pm_measure_twice an_measure_twice cd_measure_twice ct_measure_twice), sl_measure_twice⟩) (c_measure_twice : PySem.W.codeIn K cd_measure_twice "measure_twice" = true) (k_measure_twice : PySem.W.keepIn K (.ref f_measure_twice) = true)
    {f_find_room_fault : Addr} {od_find_room_fault an_find_room_fault : Option Addr} {sl_find_room_fault : Array (Option Value)} {oc_find_room_fault kV_find_room_fault dc_find_room_fault pm_find_room_fault cd_find_room_fault ct_find_room_fault : Value}
    (a_find_room_fault : PySem.W.nsIn K mainGlobals "find_room_fault" = some (some (.ref f_find_room_fault))) (l_find_room_fault : K.lookup f_find_room_fault = some ⟨oc_find_room_fault, od_find_room_fault, .func (PySem.W.fnOf "find_room_fault" "find_room_fault" (defArgs s_find_room_fault) (defBody s_find_room_fault) (defScope s_find_room_fault) .none kV_find_room_fault dc_find_room_fault pm_find_room_fault an_find_room_fault cd_find_room_fault ct_find_room_fault), sl_find_room_fault⟩) (c_find_room_fault : PySem.W.codeIn K cd_find_room_fault "find_room_fault" = true) (k_find_room_fault : PySem.W.keepIn K (.ref f_find_room_fault) = true)
    {f_refuse_room_or_book : Addr} {od_refuse_room_or_book an_refuse_room_or_book : Option Addr} {sl_refuse_room_or_book : Array (Option Value)} {oc_refuse_room_or_book kV_refuse_room_or_book dc_refuse_room_or_book pm_refuse_room_or_book cd_refuse_room_or_book ct_refuse_room_or_book : Value}
    (a_refuse_room_or_book : PySem.W.nsIn K mainGlobals "refuse_room_or_book" = some (some (.ref f_refuse_room_or_book))) (l_refuse_room_or_book : K.lookup f_refuse_room_or_book = some ⟨oc_refuse_room_or_book, od_refuse_room_or_book, .func (PySem.W.fnOf "refuse_room_or_book" "refuse_room_or_book" (defArgs s_refuse_room_or_book) (defBody s_refuse_room_or_book) (defScope s_refuse_room_or_book) .none kV_refuse_room_or_book dc_refuse_room_or_book pm_refuse_room_or_book an_refuse_room_or_book cd_refuse_room_or_book ct_refuse_room_or_book), sl_refuse_room_or_book⟩) (c_refuse_room_or_book : PySem.W.codeIn K cd_refuse_room_or_book "refuse_room_or_book" = true) (k_refuse_room_or_book : PySem.W.keepIn K (.ref f_refuse_room_or_book) = true)
    {f_are_walls : Addr} {od_are_walls an_are_walls : Option Addr} {sl_are_walls : Array (Option Value)} {oc_are_walls kV_are_walls dc_are_walls pm_are_walls cd_are_walls ct_are_walls : Value}
    (a_are_walls : PySem.W.nsIn K mainGlobals "are_walls" = some (some (.ref f_are_walls))) (l_are_walls : K.lookup f_are_walls = some ⟨oc_are_walls, od_are_walls, .func (PySem.W.fnOf "are_walls" "are_walls" (defArgs s_are_walls) (defBody s_are_walls) (defScope s_are_walls) .none kV_are_walls dc_are_walls pm_are_walls an_are_walls cd_are_walls ct_are_walls), sl_are_walls⟩) (c_are_walls : PySem.W.codeIn K cd_are_walls "are_walls" = true) (k_are_walls : PySem.W.keepIn K (.ref f_are_walls) = true)
    {f_find_gain_by_walls : Addr} {od_find_gain_by_walls an_find_gain_by_walls : Option Addr} {sl_find_gain_by_walls : Array (Option Value)} {oc_find_gain_by_walls kV_find_gain_by_walls dc_find_gain_by_walls pm_find_gain_by_walls cd_find_gain_by_walls ct_find_gain_by_walls : Value}
    (a_find_gain_by_walls : PySem.W.nsIn K mainGlobals "find_gain_by_walls" = some (some (.ref f_find_gain_by_walls))) (l_find_gain_by_walls : K.lookup f_find_gain_by_walls = some ⟨oc_find_gain_by_walls, od_find_gain_by_walls, .func (PySem.W.fnOf "find_gain_by_walls" "find_gain_by_walls" (defArgs s_find_gain_by_walls) (defBody s_find_gain_by_walls) (defScope s_find_gain_by_walls) .none kV_find_gain_by_walls dc_find_gain_by_walls pm_find_gain_by_walls an_find_gain_by_walls cd_find_gain_by_walls ct_find_gain_by_walls), sl_find_gain_by_walls⟩) (c_find_gain_by_walls : PySem.W.codeIn K cd_find_gain_by_walls "find_gain_by_walls" = true) (k_find_gain_by_walls : PySem.W.keepIn K (.ref f_find_gain_by_walls) = true)
    {f_gains : Addr} {od_gains an_gains : Option Addr} {sl_gains : Array (Option Value)} {oc_gains kV_gains dc_gains pm_gains cd_gains ct_gains : Value}
    (a_gains : PySem.W.nsIn K mainGlobals "gains" = some (some (.ref f_gains))) (l_gains : K.lookup f_gains = some ⟨oc_gains, od_gains, .func (PySem.W.fnOf "gains" "gains" (defArgs s_gains) (defBody s_gains) (defScope s_gains) .none kV_gains dc_gains pm_gains an_gains cd_gains ct_gains), sl_gains⟩) (c_gains : PySem.W.codeIn K cd_gains "gains" = true) (k_gains : PySem.W.keepIn K (.ref f_gains) = true)
    : ∃ fd : FuncData, (∀ (s : Shared) (us : List Value), us.length = (["length2", "room", "book", "walls"] : List Str).length → BindsTo s fd ⟨us, []⟩ ((["length2", "room", "book", "walls"] : List Str).zip us)) ∧ ∀ base : Heap, K.In base → base.Ns mainGlobals mg → FnOk P w K mg base CX0 8 fa fd ["length2", "room", "book", "walls"] (spGains K) := by
  have T : Txt mg := ⟨PySem.W.mg_none_of X G nb_abs, PySem.W.mg_none_of X G nb_all, PySem.W.mg_none_of X G nb_enumerate, PySem.W.mg_none_of X G nb_len, PySem.W.mg_none_of X G nb_max, PySem.W.mg_none_of X G nb_min, PySem.W.mg_none_of X G nb_range, ⟨_, PySem.W.mg_of X G nc_AIR_PLACE⟩, ⟨_, PySem.W.mg_of X G nc_AIR_STEP⟩, ⟨_, PySem.W.mg_of X G nc_BANDS⟩, ⟨_, PySem.W.mg_of X G nc_BOOK_LENGTH⟩, ⟨_, PySem.W.mg_of X G nc_FEWEST_CORNERS⟩, ⟨_, PySem.W.mg_of X G nc_FINE⟩, ⟨_, PySem.W.mg_of X G nc_GREATEST_GAIN⟩, ⟨_, PySem.W.mg_of X G nc_GREATEST_LENGTH2⟩, ⟨_, PySem.W.mg_of X G nc_GREATEST_PLACE⟩, ⟨_, PySem.W.mg_of X G nc_GREATEST_STUFF⟩, ⟨_, PySem.W.mg_of X G nc_MOST_CORNERS⟩, ⟨_, PySem.W.mg_of X G nc_MOST_TURNS⟩, ⟨_, PySem.W.mg_of X G nc_NO_BOOK⟩, ⟨_, PySem.W.mg_of X G nc_NO_ROOM⟩, ⟨_, PySem.W.mg_of X G nc_OUT_OF_RANGE⟩, ⟨_, PySem.W.mg_of X G nc_TOO_LONG⟩, ⟨_, PySem.W.mg_of X G nc_WHOLE_PART⟩⟩
  have A_find_book_fault : At K mg "find_book_fault" s_find_book_fault ["book"] := ⟨f_find_book_fault, _, fun_mk (st := s_find_book_fault) l_find_book_fault c_find_book_fault k_find_book_fault, PySem.W.mg_of X G a_find_book_fault, (fun_mk (st := s_find_book_fault) l_find_book_fault c_find_book_fault k_find_book_fault).binds fun _ _ _ _ _ _ us hl => match us, hl with | [_], _ => rfl⟩
  have A_find_root : At K mg "find_root" s_find_root ["number"] := ⟨f_find_root, _, fun_mk (st := s_find_root) l_find_root c_find_root k_find_root, PySem.W.mg_of X G a_find_root, (fun_mk (st := s_find_root) l_find_root c_find_root k_find_root).binds fun _ _ _ _ _ _ us hl => match us, hl with | [_], _ => rfl⟩
  have A_list_parts : At K mg "list_parts" s_list_parts ["length2", "book", "stuffs", "band"] := ⟨f_list_parts, _, fun_mk (st := s_list_parts) l_list_parts c_list_parts k_list_parts, PySem.W.mg_of X G a_list_parts, (fun_mk (st := s_list_parts) l_list_parts c_list_parts k_list_parts).binds fun _ _ _ _ _ _ us hl => match us, hl with | [_, _, _, _], _ => rfl⟩
  have A_find_gain : At K mg "find_gain" s_find_gain ["length2", "book", "stuffs", "band"] := ⟨f_find_gain, _, fun_mk (st := s_find_gain) l_find_gain c_find_gain k_find_gain, PySem.W.mg_of X G a_find_gain, (fun_mk (st := s_find_gain) l_find_gain c_find_gain k_find_gain).binds fun _ _ _ _ _ _ us hl => match us, hl with | [_, _, _, _], _ => rfl⟩
  have A_list_corners : At K mg "list_corners" s_list_corners ["room"] := ⟨f_list_corners, _, fun_mk (st := s_list_corners) l_list_corners c_list_corners k_list_corners, PySem.W.mg_of X G a_list_corners, (fun_mk (st := s_list_corners) l_list_corners c_list_corners k_list_corners).binds fun _ _ _ _ _ _ us hl => match us, hl with | [_], _ => rfl⟩
  have A_count_walls : At K mg "count_walls" s_count_walls ["room"] := ⟨f_count_walls, _, fun_mk (st := s_count_walls) l_count_walls c_count_walls k_count_walls, PySem.W.mg_of X G a_count_walls, (fun_mk (st := s_count_walls) l_count_walls c_count_walls k_count_walls).binds fun _ _ _ _ _ _ us hl => match us, hl with | [_], _ => rfl⟩
  have A_find_stuff : At K mg "find_stuff" s_find_stuff ["room", "wall"] := ⟨f_find_stuff, _, fun_mk (st := s_find_stuff) l_find_stuff c_find_stuff k_find_stuff, PySem.W.mg_of X G a_find_stuff, (fun_mk (st := s_find_stuff) l_find_stuff c_find_stuff k_find_stuff).binds fun _ _ _ _ _ _ us hl => match us, hl with | [_, _], _ => rfl⟩
  have A_has_right_length : At K mg "has_right_length" s_has_right_length ["room"] := ⟨f_has_right_length, _, fun_mk (st := s_has_right_length) l_has_right_length c_has_right_length k_has_right_length, PySem.W.mg_of X G a_has_right_length, (fun_mk (st := s_has_right_length) l_has_right_length c_has_right_length k_has_right_length).binds fun _ _ _ _ _ _ us hl => match us, hl with | [_], _ => rfl⟩
  have A_is_place : At K mg "is_place" s_is_place ["number"] := ⟨f_is_place, _, fun_mk (st := s_is_place) l_is_place c_is_place k_is_place, PySem.W.mg_of X G a_is_place, (fun_mk (st := s_is_place) l_is_place c_is_place k_is_place).binds fun _ _ _ _ _ _ us hl => match us, hl with | [_], _ => rfl⟩
  have A_is_stuff : At K mg "is_stuff" s_is_stuff ["number"] := ⟨f_is_stuff, _, fun_mk (st := s_is_stuff) l_is_stuff c_is_stuff k_is_stuff, PySem.W.mg_of X G a_is_stuff, (fun_mk (st := s_is_stuff) l_is_stuff c_is_stuff k_is_stuff).binds fun _ _ _ _ _ _ us hl => match us, hl with | [_], _ => rfl⟩
  have A_has_right_head : At K mg "has_right_head" s_has_right_head ["room"] := ⟨f_has_right_head, _, fun_mk (st := s_has_right_head) l_has_right_head c_has_right_head k_has_right_head, PySem.W.mg_of X G a_has_right_head, (fun_mk (st := s_has_right_head) l_has_right_head c_has_right_head k_has_right_head).binds fun _ _ _ _ _ _ us hl => match us, hl with | [_], _ => rfl⟩
  have A_is_corner : At K mg "is_corner" s_is_corner ["corner"] := ⟨f_is_corner, _, fun_mk (st := s_is_corner) l_is_corner c_is_corner k_is_corner, PySem.W.mg_of X G a_is_corner, (fun_mk (st := s_is_corner) l_is_corner c_is_corner k_is_corner).binds fun _ _ _ _ _ _ us hl => match us, hl with | [_], _ => rfl⟩
  have A_find_ends : At K mg "find_ends" s_find_ends ["corners", "line"] := ⟨f_find_ends, _, fun_mk (st := s_find_ends) l_find_ends c_find_ends k_find_ends, PySem.W.mg_of X G a_find_ends, (fun_mk (st := s_find_ends) l_find_ends c_find_ends k_find_ends).binds fun _ _ _ _ _ _ us hl => match us, hl with | [_, _], _ => rfl⟩
  have A_find_run : At K mg "find_run" s_find_run ["corners", "line"] := ⟨f_find_run, _, fun_mk (st := s_find_run) l_find_run c_find_run k_find_run, PySem.W.mg_of X G a_find_run, (fun_mk (st := s_find_run) l_find_run c_find_run k_find_run).binds fun _ _ _ _ _ _ us hl => match us, hl with | [_, _], _ => rfl⟩
  have A_runs_in_a_direction : At K mg "runs_in_a_direction" s_runs_in_a_direction ["corners", "line"] := ⟨f_runs_in_a_direction, _, fun_mk (st := s_runs_in_a_direction) l_runs_in_a_direction c_runs_in_a_direction k_runs_in_a_direction, PySem.W.mg_of X G a_runs_in_a_direction, (fun_mk (st := s_runs_in_a_direction) l_runs_in_a_direction c_runs_in_a_direction k_runs_in_a_direction).binds fun _ _ _ _ _ _ us hl => match us, hl with | [_, _], _ => rfl⟩
  have A_goes_straight_on : At K mg "goes_straight_on" s_goes_straight_on ["corners", "line"] := ⟨f_goes_straight_on, _, fun_mk (st := s_goes_straight_on) l_goes_straight_on c_goes_straight_on k_goes_straight_on, PySem.W.mg_of X G a_goes_straight_on, (fun_mk (st := s_goes_straight_on) l_goes_straight_on c_goes_straight_on k_goes_straight_on).binds fun _ _ _ _ _ _ us hl => match us, hl with | [_, _], _ => rfl⟩
  have A_find_side : At K mg "find_side" s_find_side ["start", "end", "point"] := ⟨f_find_side, _, fun_mk (st := s_find_side) l_find_side c_find_side k_find_side, PySem.W.mg_of X G a_find_side, (fun_mk (st := s_find_side) l_find_side c_find_side k_find_side).binds fun _ _ _ _ _ _ us hl => match us, hl with | [_, _, _], _ => rfl⟩
  have A_ranges_meet : At K mg "ranges_meet" s_ranges_meet ["first", "second", "axis"] := ⟨f_ranges_meet, _, fun_mk (st := s_ranges_meet) l_ranges_meet c_ranges_meet k_ranges_meet, PySem.W.mg_of X G a_ranges_meet, (fun_mk (st := s_ranges_meet) l_ranges_meet c_ranges_meet k_ranges_meet).binds fun _ _ _ _ _ _ us hl => match us, hl with | [_, _, _], _ => rfl⟩
  have A_reaches_across : At K mg "reaches_across" s_reaches_across ["first", "second"] := ⟨f_reaches_across, _, fun_mk (st := s_reaches_across) l_reaches_across c_reaches_across k_reaches_across, PySem.W.mg_of X G a_reaches_across, (fun_mk (st := s_reaches_across) l_reaches_across c_reaches_across k_reaches_across).binds fun _ _ _ _ _ _ us hl => match us, hl with | [_, _], _ => rfl⟩
  have A_lines_meet : At K mg "lines_meet" s_lines_meet ["first", "second"] := ⟨f_lines_meet, _, fun_mk (st := s_lines_meet) l_lines_meet c_lines_meet k_lines_meet, PySem.W.mg_of X G a_lines_meet, (fun_mk (st := s_lines_meet) l_lines_meet c_lines_meet k_lines_meet).binds fun _ _ _ _ _ _ us hl => match us, hl with | [_, _], _ => rfl⟩
  have A_meets_a_later_line : At K mg "meets_a_later_line" s_meets_a_later_line ["corners", "line"] := ⟨f_meets_a_later_line, _, fun_mk (st := s_meets_a_later_line) l_meets_a_later_line c_meets_a_later_line k_meets_a_later_line, PySem.W.mg_of X G a_meets_a_later_line, (fun_mk (st := s_meets_a_later_line) l_meets_a_later_line c_meets_a_later_line k_meets_a_later_line).binds fun _ _ _ _ _ _ us hl => match us, hl with | [_, _], _ => rfl⟩
  have A_breaks_rule : At K mg "breaks_rule" s_breaks_rule ["corners", "rule", "wall"] := ⟨f_breaks_rule, _, fun_mk (st := s_breaks_rule) l_breaks_rule c_breaks_rule k_breaks_rule, PySem.W.mg_of X G a_breaks_rule, (fun_mk (st := s_breaks_rule) l_breaks_rule c_breaks_rule k_breaks_rule).binds fun _ _ _ _ _ _ us hl => match us, hl with | [_, _, _], _ => rfl⟩
  have A_measure_twice : At K mg "measure_twice" s_measure_twice ["corners"] := ⟨f_measure_twice, _, fun_mk (st := s_measure_twice) l_measure_twice c_measure_twice k_measure_twice, PySem.W.mg_of X G a_measure_twice, (fun_mk (st := s_measure_twice) l_measure_twice c_measure_twice k_measure_twice).binds fun _ _ _ _ _ _ us hl => match us, hl with | [_], _ => rfl⟩
  have A_find_room_fault : At K mg "find_room_fault" s_find_room_fault ["room"] := ⟨f_find_room_fault, _, fun_mk (st := s_find_room_fault) l_find_room_fault c_find_room_fault k_find_room_fault, PySem.W.mg_of X G a_find_room_fault, (fun_mk (st := s_find_room_fault) l_find_room_fault c_find_room_fault k_find_room_fault).binds fun _ _ _ _ _ _ us hl => match us, hl with | [_], _ => rfl⟩
  have A_refuse_room_or_book : At K mg "refuse_room_or_book" s_refuse_room_or_book ["room", "book"] := ⟨f_refuse_room_or_book, _, fun_mk (st := s_refuse_room_or_book) l_refuse_room_or_book c_refuse_room_or_book k_refuse_room_or_book, PySem.W.mg_of X G a_refuse_room_or_book, (fun_mk (st := s_refuse_room_or_book) l_refuse_room_or_book c_refuse_room_or_book k_refuse_room_or_book).binds fun _ _ _ _ _ _ us hl => match us, hl with | [_, _], _ => rfl⟩
  have A_are_walls : At K mg "are_walls" s_are_walls ["room", "walls"] := ⟨f_are_walls, _, fun_mk (st := s_are_walls) l_are_walls c_are_walls k_are_walls, PySem.W.mg_of X G a_are_walls, (fun_mk (st := s_are_walls) l_are_walls c_are_walls k_are_walls).binds fun _ _ _ _ _ _ us hl => match us, hl with | [_, _], _ => rfl⟩
  have A_find_gain_by_walls : At K mg "find_gain_by_walls" s_find_gain_by_walls ["length2", "room", "book", "walls", "band"] := ⟨f_find_gain_by_walls, _, fun_mk (st := s_find_gain_by_walls) l_find_gain_by_walls c_find_gain_by_walls k_find_gain_by_walls, PySem.W.mg_of X G a_find_gain_by_walls, (fun_mk (st := s_find_gain_by_walls) l_find_gain_by_walls c_find_gain_by_walls k_find_gain_by_walls).binds fun _ _ _ _ _ _ us hl => match us, hl with | [_, _, _, _, _], _ => rfl⟩
  have A_gains : At K mg "gains" s_gains ["length2", "room", "book", "walls"] := ⟨f_gains, _, fun_mk (st := s_gains) l_gains c_gains k_gains, PySem.W.mg_of X G a_gains, (fun_mk (st := s_gains) l_gains c_gains k_gains).binds fun _ _ _ _ _ _ us hl => match us, hl with | [_, _, _, _], _ => rfl⟩
  have e := Value.ref.inj (Option.some.inj (hfa.symm.trans (PySem.W.mg_of X G a_gains)))
  subst e
  refine ⟨PySem.W.fnOf "gains" "gains" (defArgs s_gains) (defBody s_gains) (defScope s_gains) .none kV_gains dc_gains pm_gains an_gains cd_gains ct_gains, fun s us hu => match us, hu with | [_, _, _, _], _ => .of_eq rfl, fun base _ _ => ?_⟩
  exact (ok_gains A_gains T (ok_refuse_room_or_book A_refuse_room_or_book T (ok_the_fault T A_list_corners A_has_right_length A_is_place A_is_stuff A_has_right_head A_is_corner A_find_ends A_find_run A_runs_in_a_direction A_goes_straight_on A_find_side A_ranges_meet A_reaches_across A_lines_meet A_meets_a_later_line A_breaks_rule A_measure_twice A_find_room_fault) (ok_find_book_fault A_find_book_fault T)) (ok_are_walls A_are_walls T (ok_count_walls A_count_walls T)) (ok_find_gain_by_walls A_find_gain_by_walls T (ok_find_stuff A_find_stuff T (ok_count_walls A_count_walls T)) (ok_find_gain A_find_gain T (ok_list_parts A_list_parts T (ok_find_root A_find_root T)) (ok_find_root A_find_root T)))).at_ (PySem.W.mg_of X G a_gains) l_gains
theorem request (K : PySem.W.Frag) (H : Hp) (xs : List V) (a : Codec.denoteAll PySem.Challenge.rw_wallbands_s02_gains.args) (_hO : OnlyF H) (hw : Codec.withinAll PySem.Challenge.rw_wallbands_s02_gains.args a = true) (_hq : Codec.app PySem.Challenge.rw_wallbands_s02_gains.args PySem.Challenge.rw_wallbands_s02_gains.asked a = true)
    (hx : DwAll K H xs (Codec.encAll PySem.Challenge.rw_wallbands_s02_gains.args a)) : spGains K xs H (fun v H' => Dw K H' v (PySem.Challenge.rw_wallbands_s02_gains.ret.enc (Codec.app PySem.Challenge.rw_wallbands_s02_gains.args PySem.Challenge.rw_wallbands_s02_gains.f a))) fun _ _ _ => False := by
  obtain ⟨q, ns, bk, ws, u⟩ := a
  cases hx with
  | cons h1 h2 =>
  cases h2 with
  | cons h2 h3 =>
  cases h3 with
  | cons h3 h4 =>
  cases h4 with
  | cons h4 h5 =>
  cases h5
  cases h1
  cases h2 with
  | lst s2 a2 =>
  cases h3 with
  | lst s3 a3 =>
  cases h4 with
  | lst s4 a4 =>
  have e2 := ints_dw ns _ a2
  have e3 := ints_dw bk _ a3
  have e4 := ints_dw ws _ a4
  subst e2 e3 e4
  have z : (Codec.inInt 0 18446744073709551615 q && ((Codec.inLen 0 300 ns && ns.all (Codec.inInt (-9223372036854775808) 9223372036854775807)) && ((Codec.inLen 0 100 bk && bk.all (Codec.inInt 0 18446744073709551615)) && ((Codec.inLen 0 20 ws && ws.all (Codec.inInt 0 18446744073709551615)) && true)))) = true := hw
  simp only [Bool.and_eq_true, Codec.inLen, Codec.inNat, Codec.inInt, List.all_eq_true, decide_eq_true_eq] at z
  obtain ⟨zq, ⟨zl, zn⟩, ⟨_, zb⟩, ⟨zw, zww⟩, _⟩ := z
  have q0 : ((q.toNat : Nat) : Int) = q := by omega
  refine ⟨q.toNat, _, _, _, ns, bk, ws, by rw [q0], s2, s3, s4, by omega, fun x hx => (by have := zn x hx; omega), fun x hx => (zb x hx).1, by omega, fun x hx => (zww x hx).1, fun l H' p hg _ hp => ?_⟩
  have e := gains_eq (fun x hx => (zb x hx).1) (fun x hx => (zww x hx).1) hg
  rw [q0] at e
  rw [← e] at hp
  exact .lst (SqL.of hp) (dw_ints _)
end Gn
open PySem PySem.W PyProof.Rows
set_option maxRecDepth 100000 in
set_option maxHeartbeats 0 in
theorem PySem.Challenge.cw_wallbands_s02_gains_holds : PySem.Challenge.rw_wallbands_s02_gains.Holds := by
  w_on; k_headS; (case hw => exact ⟨[.int 0, .list [], .list [], .list []], by decide +kernel, by decide +kernel⟩)
  k_fillS
  refine L2.walk_specK (r := PySem.Challenge.rw_wallbands_s02_gains) (k := 8) (CX := L2.CX0) (ps := ["length2", "room", "book", "walls"]) (sp := Gn.spGains) (by decide +kernel) rfl rfl ⟨rfl, by decide, by decide⟩ (fun w h Y => PySem.W.kIn_of Y) ?F ?S (fun _ _ _ _ z => z)
  case F =>
    intro w mg fa h Y KX G hmg
    refine' Gn.all_mk KX G hmg ?nb_abs ?nb_all ?nb_enumerate ?nb_len ?nb_max ?nb_min ?nb_range ?nc_AIR_PLACE ?nc_AIR_STEP ?nc_BANDS ?nc_BOOK_LENGTH ?nc_FEWEST_CORNERS ?nc_FINE ?nc_GREATEST_GAIN ?nc_GREATEST_LENGTH2 ?nc_GREATEST_PLACE ?nc_GREATEST_STUFF ?nc_MOST_CORNERS ?nc_MOST_TURNS ?nc_NO_BOOK ?nc_NO_ROOM ?nc_OUT_OF_RANGE ?nc_TOO_LONG ?nc_WHOLE_PART ?a_find_book_fault ?l_find_book_fault ?c_find_book_fault ?k_find_book_fault ?a_find_root ?l_find_root ?c_find_root ?k_find_root ?a_list_parts ?l_list_parts ?c_list_parts ?k_list_parts ?a_find_gain ?l_find_gain ?c_find_gain ?k_find_gain ?a_list_corners ?l_list_corners ?c_list_corners ?k_list_corners ?a_count_walls ?l_count_walls ?c_count_walls ?k_count_walls ?a_find_stuff ?l_find_stuff ?c_find_stuff ?k_find_stuff ?a_has_right_length ?l_has_right_length ?c_has_right_length ?k_has_right_length ?a_is_place ?l_is_place ?c_is_place ?k_is_place ?a_is_stuff ?l_is_stuff ?c_is_stuff ?k_is_stuff ?a_has_right_head ?l_has_right_head ?c_has_right_head ?k_has_right_head ?a_is_corner ?l_is_corner ?c_is_corner ?k_is_corner ?a_find_ends ?l_find_ends ?c_find_ends ?k_find_ends ?a_find_run ?l_find_run ?c_find_run ?k_find_run ?a_runs_in_a_direction ?l_runs_in_a_direction ?c_runs_in_a_direction ?k_runs_in_a_direction ?a_goes_straight_on ?l_goes_straight_on ?c_goes_straight_on ?k_goes_straight_on ?a_find_side ?l_find_side ?c_find_side ?k_find_side ?a_ranges_meet ?l_ranges_meet ?c_ranges_meet ?k_ranges_meet ?a_reaches_across ?l_reaches_across ?c_reaches_across ?k_reaches_across ?a_lines_meet ?l_lines_meet ?c_lines_meet ?k_lines_meet ?a_meets_a_later_line ?l_meets_a_later_line ?c_meets_a_later_line ?k_meets_a_later_line ?a_breaks_rule ?l_breaks_rule ?c_breaks_rule ?k_breaks_rule ?a_measure_twice ?l_measure_twice ?c_measure_twice ?k_measure_twice ?a_find_room_fault ?l_find_room_fault ?c_find_room_fault ?k_find_room_fault ?a_refuse_room_or_book ?l_refuse_room_or_book ?c_refuse_room_or_book ?k_refuse_room_or_book ?a_are_walls ?l_are_walls ?c_are_walls ?k_are_walls ?a_find_gain_by_walls ?l_find_gain_by_walls ?c_find_gain_by_walls ?k_find_gain_by_walls ?a_gains ?l_gains ?c_gains ?k_gains
    case nb_abs => k_is
    case nb_all => k_is
    case nb_enumerate => k_is
    case nb_len => k_is
    case nb_max => k_is
    case nb_min => k_is
    case nb_range => k_is
    case nc_AIR_PLACE => k_is
    case nc_AIR_STEP => k_is
    case nc_BANDS => k_is
    case nc_BOOK_LENGTH => k_is
    case nc_FEWEST_CORNERS => k_is
    case nc_FINE => k_is
    case nc_GREATEST_GAIN => k_is
    case nc_GREATEST_LENGTH2 => k_is
    case nc_GREATEST_PLACE => k_is
    case nc_GREATEST_STUFF => k_is
    case nc_MOST_CORNERS => k_is
    case nc_MOST_TURNS => k_is
    case nc_NO_BOOK => k_is
    case nc_NO_ROOM => k_is
    case nc_OUT_OF_RANGE => k_is
    case nc_TOO_LONG => k_is
    case nc_WHOLE_PART => k_is
    case a_find_book_fault => k_is
    case l_find_book_fault => k_is
    case c_find_book_fault => k_is
    case k_find_book_fault => k_is
    case a_find_root => k_is
    case l_find_root => k_is
    case c_find_root => k_is
    case k_find_root => k_is
    case a_list_parts => k_is
    case l_list_parts => k_is
    case c_list_parts => k_is
    case k_list_parts => k_is
    case a_find_gain => k_is
    case l_find_gain => k_is
    case c_find_gain => k_is
    case k_find_gain => k_is
    case a_list_corners => k_is
    case l_list_corners => k_is
    case c_list_corners => k_is
    case k_list_corners => k_is
    case a_count_walls => k_is
    case l_count_walls => k_is
    case c_count_walls => k_is
    case k_count_walls => k_is
    case a_find_stuff => k_is
    case l_find_stuff => k_is
    case c_find_stuff => k_is
    case k_find_stuff => k_is
    case a_has_right_length => k_is
    case l_has_right_length => k_is
    case c_has_right_length => k_is
    case k_has_right_length => k_is
    case a_is_place => k_is
    case l_is_place => k_is
    case c_is_place => k_is
    case k_is_place => k_is
    case a_is_stuff => k_is
    case l_is_stuff => k_is
    case c_is_stuff => k_is
    case k_is_stuff => k_is
    case a_has_right_head => k_is
    case l_has_right_head => k_is
    case c_has_right_head => k_is
    case k_has_right_head => k_is
    case a_is_corner => k_is
    case l_is_corner => k_is
    case c_is_corner => k_is
    case k_is_corner => k_is
    case a_find_ends => k_is
    case l_find_ends => k_is
    case c_find_ends => k_is
    case k_find_ends => k_is
    case a_find_run => k_is
    case l_find_run => k_is
    case c_find_run => k_is
    case k_find_run => k_is
    case a_runs_in_a_direction => k_is
    case l_runs_in_a_direction => k_is
    case c_runs_in_a_direction => k_is
    case k_runs_in_a_direction => k_is
    case a_goes_straight_on => k_is
    case l_goes_straight_on => k_is
    case c_goes_straight_on => k_is
    case k_goes_straight_on => k_is
    case a_find_side => k_is
    case l_find_side => k_is
    case c_find_side => k_is
    case k_find_side => k_is
    case a_ranges_meet => k_is
    case l_ranges_meet => k_is
    case c_ranges_meet => k_is
    case k_ranges_meet => k_is
    case a_reaches_across => k_is
    case l_reaches_across => k_is
    case c_reaches_across => k_is
    case k_reaches_across => k_is
    case a_lines_meet => k_is
    case l_lines_meet => k_is
    case c_lines_meet => k_is
    case k_lines_meet => k_is
    case a_meets_a_later_line => k_is
    case l_meets_a_later_line => k_is
    case c_meets_a_later_line => k_is
    case k_meets_a_later_line => k_is
    case a_breaks_rule => k_is
    case l_breaks_rule => k_is
    case c_breaks_rule => k_is
    case k_breaks_rule => k_is
    case a_measure_twice => k_is
    case l_measure_twice => k_is
    case c_measure_twice => k_is
    case k_measure_twice => k_is
    case a_find_room_fault => k_is
    case l_find_room_fault => k_is
    case c_find_room_fault => k_is
    case k_find_room_fault => k_is
    case a_refuse_room_or_book => k_is
    case l_refuse_room_or_book => k_is
    case c_refuse_room_or_book => k_is
    case k_refuse_room_or_book => k_is
    case a_are_walls => k_is
    case l_are_walls => k_is
    case c_are_walls => k_is
    case k_are_walls => k_is
    case a_find_gain_by_walls => k_is
    case l_find_gain_by_walls => k_is
    case c_find_gain_by_walls => k_is
    case k_find_gain_by_walls => k_is
    case a_gains => k_is
    case l_gains => k_is
    case c_gains => k_is
    case k_gains => k_is
  case S => exact Gn.request
#print axioms PySem.Challenge.cw_wallbands_s02_gains_holds
