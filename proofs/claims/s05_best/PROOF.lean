import PyProof.Rows.All
import Wide.All
import OpenK.AllK
import Wide.FinOn
import PyProof.EqAt
import PyProof.EqKinds
import PyProof.TupleCall
import KE.BitLaws
import Open.SpecLaws
import KE.OsHead
import KE.OsGo
import KE.KIntText
import PySem.Challenge.RW_wallbands_s05_best
set_option maxHeartbeats 4000000
set_option maxRecDepth 100000
set_option Elab.async false
set_option linter.all false
namespace L2
open PySem PySem.Spec PyProof.Rows
abbrev Key:=Sum Int Str
def keyIs:Key->Value->Bool
 | .inl k,v=>Value.isInt k v
 | .inr x,v=>Value.isStrOf x v
def keyH (w:World):Key->Int
 | .inl k=>hashInt k
 | .inr x=>hashStr w x
theorem keyIs_shape:∀ {k:Key} {v:Value},keyIs k v=true->(∃ i t,k=Sum.inl i/\v=Value.int i t)\/(∃ x t,k=Sum.inr x/\v=Value.str x t)
 | .inl i,v,h=>by
  obtain ⟨t,e⟩:=Value.isInt_shape (k:=i) (v:=v) h
  exact .inl ⟨i,t,rfl,e⟩
 | .inr x,v,h=>by
  obtain ⟨t,e⟩:=Value.isStrOf_shape (x:=x) (v:=v) h
  exact .inr ⟨x,t,rfl,e⟩
theorem key_ll (a b:Int):decide ((Sum.inl a:Key)=Sum.inl b)=(a == b):=by
 by_cases e:a=b
 ·subst e; simp
 ·have h:¬ (Sum.inl a:Key)=Sum.inl b:=fun q=>e (Sum.inl.inj q)
  rw [decide_eq_false h]
  exact (beq_eq_false_iff_ne.mpr e).symm
theorem key_rr (a b:Str):decide ((Sum.inr a:Key)=Sum.inr b)=decide (a=b):=by
 by_cases e:a=b
 ·subst e; simp
 ·have h:¬ (Sum.inr a:Key)=Sum.inr b:=fun q=>e (Sum.inr.inj q)
  rw [decide_eq_false h,decide_eq_false e]
theorem key_lr (a:Int) (b:Str):decide ((Sum.inl a:Key)=Sum.inr b)=false:=decide_eq_false (fun q=>nomatch q)
theorem key_rl (a:Str) (b:Int):decide ((Sum.inr a:Key)=Sum.inl b)=false:=decide_eq_false (fun q=>nomatch q)
def mixKind (prog:Program) (w:World):PySem.KeyKind prog w Key where
 is:=keyIs
 hash:=keyH w
 inj:=fun v a b ha hb=>by
  rcases keyIs_shape ha with ⟨i,t,rfl,rfl⟩ | ⟨x,t,rfl,rfl⟩
  ·rcases keyIs_shape hb with ⟨j,u,rfl,e⟩ | ⟨y,u,rfl,e⟩
   ·injection e with e1 _; rw [e1]
   ·exact nomatch e
  ·rcases keyIs_shape hb with ⟨j,u,rfl,e⟩ | ⟨y,u,rfl,e⟩
   ·exact nomatch e
   ·injection e with e1 _; rw [e1]
 byValue:=fun k v h=>by
  rcases keyIs_shape h with ⟨i,t,rfl,rfl⟩ | ⟨x,t,rfl,rfl⟩ <;> rfl
 pyHash:=fun hv h=>by
  rcases keyIs_shape hv with ⟨i,t,rfl,rfl⟩ | ⟨x,t,rfl,rfl⟩
  ·exact wpAny_pyHash_int h
  ·exact wpAny_pyHash_str h
 eqBool:=fun hu hv h=>by
  rcases keyIs_shape hu with ⟨i,t,rfl,rfl⟩ | ⟨x,t,rfl,rfl⟩
  ·rcases keyIs_shape hv with ⟨j,u,rfl,rfl⟩ | ⟨y,u,rfl,rfl⟩
   ·rw [key_ll] at h; exact wpAny_eqBool_int h
   ·rw [key_lr] at h; exact SeqAt.EqAt.int_str i t y u _ _ _ _ h
  ·rcases keyIs_shape hv with ⟨j,u,rfl,rfl⟩ | ⟨y,u,rfl,rfl⟩
   ·rw [key_rl] at h; exact SeqAt.EqAt.str_int x t j u _ _ _ _ h
   ·rw [key_rr] at h; exact wpAny_eqBool_str h
 «strs»:=fun k x t v h=>by
  rcases keyIs_shape h with ⟨i,u,rfl,e⟩ | ⟨y,u,rfl,e⟩
  ·exact nomatch e
  ·injection e with e1 _
   subst e1
   cases v <;> rfl
end L2
namespace L2
open PySem PySem.Spec PyProof.Rows
inductive V where
 | non | bl (b:Bool) | int (i:Int) | str (x:Str) | byt (b:Array UInt8) | flt (b:UInt64) | ref (a:Addr) | ty (n:String)
 deriving DecidableEq
def RelV:V->Value->Prop
 | .non,u=>u=Value.none
 | .bl b,u=>u=Value.bool b
 | .int i,u=>∃ t,u=Value.int i t
 | .str x,u=>∃ t,u=Value.str x t
 | .byt b,u=>∃ t,u=Value.bytes b t
 | .flt b,u=>∃ t,u=Value.float b t
 | .ref a,u=>u=Value.ref a
 | .ty n,u=>u=Value.type n
abbrev Vals:List V->List Value->Prop:=Paired RelV
theorem Vals.length {xs:List V} {us:List Value} (r:Vals xs us):xs.length=us.length:=Paired.length r
theorem Vals.get:∀ {xs:List V} {us:List Value} {i:Nat} {x:V},Vals xs us->xs[i]? = some x->∃ u,us[i]? = some u/\RelV x u
 | _,_,_,_,.nil,e=>by simp at e
 | _,_,0,_,.cons r _,e=>by simp at e; subst e; exact ⟨_,rfl,r⟩
 | _,_,i+1,x,.cons _ t,e=>by
  obtain ⟨u,h1,h2⟩:=Vals.get (i:=i) (x:=x) t (by simpa using e)
  exact ⟨u,by simpa using h1,h2⟩
theorem Vals.append:∀ {xs ys:List V} {us ws:List Value},Vals xs us->Vals ys ws->Vals (xs ++ ys) (us ++ ws)
 | _,_,_,_,.nil,s=>s
 | _,_,_,_,.cons r t,s=>.cons r (Vals.append t s)
theorem Vals.take:∀ {xs:List V} {us:List Value} (n:Nat),Vals xs us->Vals (xs.take n) (us.take n)
 | _,_,0,_=>.nil
 | _,_,_+1,.nil=>.nil
 | _,_,n+1,.cons r t=>.cons r (Vals.take n t)
theorem Vals.drop:∀ {xs:List V} {us:List Value} (n:Nat),Vals xs us->Vals (xs.drop n) (us.drop n)
 | _,_,0,r=>r
 | _,_,_+1,.nil=>.nil
 | _,_,n+1,.cons _ t=>Vals.drop n t
def RelO:Option V->Option Value->Prop
 | some v,some u=>RelV v u
 | none,none=>True
 | _,_=>False
def KV {κ:Type}:List (κ×V)->List (κ×Value)->Prop:=Paired fun (p:κ×V) (q:κ×Value)=>p.1=q.1/\RelV p.2 q.2
def kV:Key->V
 | .inl i=>.int i
 | .inr x=>.str x
inductive HO where
 /-- a list -/
 | lst (xs:List V)
 /-- a tuple (never changes) -/
 | tup (xs:List V)
 /-- a dict whose keys are ints and texts; one whose keys are tuples of ints and texts (the empty one is both) -/
 | dK (kvs:List (Key×V)) | dT (kvs:List (List Key×V))
 /-- a set of ints: its members, its size -/
 | set (S:Int->Bool) (n:Nat)
 /-- an instance of the class at C, its dict at dx, its attributes -/
 | ins (C dx:Addr) (fs:List (Str×V))
 /-- the dict of the instance at x -/
 | own (x:Addr)
 /-- the dict of an exception -/
 | xd (fs:List (Str×V))
 /-- a bound method, f of x -/
 | met (f x:Addr)
 /-- a range object lo, lo + 1, .. below hi -/
 | rng (lo hi:Int)
 /-- a thing that is known to the object (the script; a dict while a loop walks it): read, never written while it is so -/
 | frz (o:Obj) (u:HO)
 /-- a code object's table -/
 | tbl (ps:Array Value)
 /-- any other thing, by what is true of its one object (a def of one's own: SetO a S n := HO.ext fun h => ..) -/
 | ext (φ:Heap->Prop)
abbrev Hp:=Addr->Option HO
def upd (H:Hp) (a:Addr) (o:HO):Hp:=fun b=>if b=a then some o else H b
theorem upd_same {H:Hp} {a:Addr} {o:HO}:upd H a o a=some o:=by unfold upd; rw [if_pos rfl]
theorem upd_ne {H:Hp} {a b:Addr} {o:HO} (h:b≠a):upd H a o b=H b:=by unfold upd; rw [if_neg h]
theorem ne_of_none {H:Hp} {a b:Addr} {o:HO} (h:H a=some o) (h':H b=none):a≠b:=by
 intro e; subst e; rw [h] at h'; cases h'
section
variable (P:Program) (w:World)
def ObjOk (H:Hp) (h:Heap) (a:Addr):HO->Prop
 | .lst xs=>xs.length<=sizeLine/\∃ (its:List Value) (n:Nat),Vals xs its/\h.get? a=some { cls:=.type "list",data:=.seq its.toArray n }
 | .tup xs=>xs.length<=sizeLine/\∃ its:List Value,Vals xs its/\IsTup h a its.toArray
 | .dK kvs=>kvs.length<=sizeLine/\(a == sysModules)=false/\∃ vs,KV kvs vs/\h.DictOf (mixKind P w) a vs
 | .dT kvs=>kvs.length<=sizeLine/\(a == sysModules)=false/\∃ xs:List (List Key×Addr×Value),
   Paired (fun (p:List Key×V) (q:List Key×Addr×Value)=>p.1=q.1/\H q.2.1=some (.tup (p.1.map kV))/\RelV p.2 q.2.2) kvs xs /\
   ∃ o es ep,h.get? a=some o/\o.ExactDict/\o.data=.dict es ep/\es.toList=xs.map (entryOfKey (tupleKind (mixKind P w)))/\(xs.map (·.1)).Nodup
 | .set S n=>h.SetOf (intKind P w) a S n
 | .ins C dx fs=>H dx=some (.own a)/\fs.length<=1000/\dx≠a/\h.get? a=some (PySem.W.instObj C dx) /\
   ∃ mA,h.Ns1 dx mA/\(∀ f,RelO (fs.lookup f) (mA f))/\PySem.Within mA (fs.map (·.1))
 | .own _=>∃ o,h.get? a=some o
 | .xd fs=>∃ mA,h.Ns1 a mA/\∀ f,RelO (fs.lookup f) (mA f)
 | .rng lo hi=>∃ t u v,h.get? a=some { cls:=.type "range",data:=.fields #[.int lo t,.int hi u,.int 1 v] }
 | .frz o u=>h.get? a=some o/\ObjOk H h a u
 | .tbl ps=>h.get? a=some { cls:=.none,data:=.fields ps }
 | .met f x=>h.get? a=some (PySem.W.methodObj (.ref f) (.ref x))
 | .ext φ=>φ h/\(∃ o,h.get? a=some o)/\∀ h1 h2:Heap,φ h1->(∀ o,h1.get? a=some o->h2.get? a=some o)->φ h2
def HOk (H:Hp) (h:Heap):Prop:=∀ a o,H a=some o->ObjOk P w H h a o
end
section
variable {P:Program} {w:World} {H H':Hp} {h h':Heap} {a:Addr} {o:HO}
theorem ObjOk.lt (x:ObjOk P w H h a o):a < h.objs.size:=by
 cases o with
 | lst xs=>obtain ⟨_,_,_,_,e⟩:=x; exact Heap.lt_size e
 | tup xs=>obtain ⟨_,_,_,p⟩:=x; exact p.lt
 | dK kvs=>obtain ⟨_,_,_,_,o,_,_,e,_⟩:=x; exact Heap.lt_size e
 | dT kvs=>obtain ⟨_,_,_,_,o,_,_,e,_⟩:=x; exact Heap.lt_size e
 | set S n=>obtain ⟨o,_,_,_,e,_⟩:=x; exact Heap.lt_size e
 | ins C dx fs=>obtain ⟨_,_,_,e,_⟩:=x; exact Heap.lt_size e
 | own y=>obtain ⟨_,e⟩:=x; exact Heap.lt_size e
 | xd fs=>obtain ⟨_,⟨_,_,_,e,_⟩,_⟩:=x; exact Heap.lt_size e
 | rng lo hi=>obtain ⟨_,_,_,e⟩:=x; exact Heap.lt_size e
 | frz ob u=>obtain ⟨e,_⟩:=x; exact Heap.lt_size e
 | tbl ps=>exact Heap.lt_size (show h.get? a=some _ from x)
 | met f y=>exact Heap.lt_size (show h.get? a=some _ from x)
 | ext φ=>obtain ⟨_,⟨_,e⟩,_⟩:=x; exact Heap.lt_size e
theorem Paired.mapP {α β:Type} {F G:α->β->Prop}:∀ {l₁:List α} {l₂:List β},Paired F l₁ l₂->(∀ a b,F a b->G a b)->Paired G l₁ l₂
 | _,_,.nil,_=>.nil
 | _,_,.cons r t,f=>.cons (f _ _ r) (Paired.mapP t f)
theorem ObjOk.stay (x:ObjOk P w H h a o) (k:∀ b u,(b=a\/H b=some (.own a))->h.get? b=some u->h'.get? b=some u)
  (ho:∀ b,H b=some (.own a)->H' b=some (.own a)) (ht:∀ b xs,H b=some (.tup xs)->H' b=some (.tup xs)):ObjOk P w H' h' a o:=by
 induction o with
 | lst xs=>obtain ⟨z,its,n,r,e⟩:=x; exact ⟨z,its,n,r,k _ _ (.inl rfl) e⟩
 | tup xs=>obtain ⟨z,its,r,ob,e,c⟩:=x; exact ⟨z,its,r,ob,k _ _ (.inl rfl) e,c⟩
 | dK kvs=>obtain ⟨z,y,vs,r,ob,es,ep,e,c⟩:=x; exact ⟨z,y,vs,r,ob,es,ep,k _ _ (.inl rfl) e,c⟩
 | dT kvs =>
  obtain ⟨z,y,xs,r,ob,es,ep,e,c⟩:=x
  exact ⟨z,y,xs,Paired.mapP r fun p q z=>⟨z.1,ht _ _ z.2.1,z.2.2⟩,ob,es,ep,k _ _ (.inl rfl) e,c⟩
 | set S n=>obtain ⟨ob,es,ep,t,e,c⟩:=x; exact ⟨ob,es,ep,t,k _ _ (.inl rfl) e,c⟩
 | ins C dx fs =>
  obtain ⟨d,z,ne,e,mA,⟨od,es,ep,e2,c⟩,r⟩:=x
  exact ⟨ho _ d,z,ne,k _ _ (.inl rfl) e,mA,⟨od,es,ep,k _ _ (.inr d) e2,c⟩,r⟩
 | own y=>obtain ⟨ob,e⟩:=x; exact ⟨ob,k _ _ (.inl rfl) e⟩
 | xd fs=>obtain ⟨mA,⟨od,es,ep,e,c⟩,r⟩:=x; exact ⟨mA,⟨od,es,ep,k _ _ (.inl rfl) e,c⟩,r⟩
 | rng lo hi=>obtain ⟨t,u,v,e⟩:=x; exact ⟨t,u,v,k _ _ (.inl rfl) e⟩
 | frz ob u ih=>obtain ⟨e,q⟩:=x; exact ⟨k _ _ (.inl rfl) e,ih q⟩
 | tbl ps =>
  have e:h.get? a=some { cls:=.none,data:=.fields ps }:=x
  show h'.get? a=some { cls:=.none,data:=.fields ps }
  exact k a _ (.inl rfl) e
 | met f y =>
  have e:h.get? a=some (PySem.W.methodObj (.ref f) (.ref y)):=x
  show h'.get? a=some (PySem.W.methodObj (.ref f) (.ref y))
  exact k a _ (.inl rfl) e
 | ext φ=>obtain ⟨p,⟨o,e⟩,st⟩:=x; exact ⟨st _ _ p fun o q=>k _ _ (.inl rfl) q,⟨o,k _ _ (.inl rfl) e⟩,st⟩
theorem HOk.lt (x:HOk P w H h) (e:H a=some o):a < h.objs.size:=(x a o e).lt
theorem HOk.fresh (x:HOk P w H h) (e:h.objs.size<=a):H a=none:=by
 cases q:H a with
 | none=>rfl
 | some u=>exact absurd (Nat.lt_of_lt_of_le (x.lt q) e) (Nat.lt_irrefl _)
theorem HOk.kept (x:HOk P w H h) (k:∀ b u,h.get? b=some u->h'.get? b=some u):HOk P w H h':=fun a o e =>
 (x a o e).stay (fun b u _ q=>k b u q) (fun _ q=>q) fun _ _ q=>q
theorem HOk.laid (x:HOk P w H h) (k:∀ b u,h.get? b=some u->h'.get? b=some u) (hp:h.objs.size<=a) (new:ObjOk P w (upd H a o) h' a o):HOk P w (upd H a o) h':=fun b u e=>by
 have hn:=x.fresh hp
 by_cases hb:b=a
 ·subst hb; rw [upd_same] at e; cases e; exact new
 ·rw [upd_ne hb] at e
  exact (x b u e).stay (fun c v _ q=>k c v q) (fun c q=>by rw [upd_ne (ne_of_none q hn)]; exact q) fun c xs q=>by rw [upd_ne (ne_of_none q hn)]; exact q
end
def Rd (H:Hp) (a:Addr) (u:HO):Prop:=H a=some u\/∃ o,H a=some (.frz o u)
theorem Rd.ok {P:Program} {w:World} {H:Hp} {h:Heap} {a:Addr} {u:HO} (r:Rd H a u) (x:HOk P w H h):ObjOk P w H h a u:=by
 rcases r with r | ⟨o,r⟩
 ·exact x a u r
 ·obtain ⟨_,q⟩:=x a _ r
  exact q
def Mut:Option HO->Prop
 | some (.lst _)=>True
 | some (.dK _)=>True
 | some (.dT _)=>True
 | some (.set _ _)=>True
 | some (.ins _ _ _)=>True
 | some (.ext _)=>True
 | _=>False
section
variable {P:Program} {w:World} {H:Hp} {h h':Heap} {x e:Addr} {o':HO}
theorem HOk.write (ok:HOk P w H h) (mu:Mut (H x)) (he:e=x\/H e=some (.own x)) (k:∀ b u,b≠e->h.get? b=some u->h'.get? b=some u) (heo:∃ u,h'.get? e=some u)
  (new:ObjOk P w (upd H x o') h' x o'):HOk P w (upd H x o') h':=fun b u q=>by
 have nown:∀ c y,H c=some (.own y)->c≠x:=fun c y r z=>by subst z; rw [r] at mu; exact mu
 have ntup:∀ c xs,H c=some (.tup xs)->c≠x:=fun c xs r z=>by subst z; rw [r] at mu; exact mu
 by_cases hb:b=x
 ·subst hb; rw [upd_same] at q; cases q; exact new
 ·rw [upd_ne hb] at q
  by_cases hbe:b=e
  ·have q':H b=some (.own x):=by
    rcases he with z | z
    ·exact absurd (hbe.trans z) hb
    ·rw [hbe]; exact z
   rw [q] at q'; cases q'
   obtain ⟨v,hv⟩:=heo
   exact ⟨v,by rw [hbe]; exact hv⟩
  ·refine (ok b u q).stay (fun c v hc r=>k c v ?_ r) (fun c r=>by rw [upd_ne (nown c b r)]; exact r) fun c xs r=>by rw [upd_ne (ntup c xs r)]; exact r
   rcases hc with rfl | hc
   ·exact hbe
   ·rintro rfl
    rcases he with z | z
    ·exact nown c b hc z
    ·rw [hc] at z; cases z; exact hb rfl
end
structure Un (fs ex:List Addr) (H H':Hp) (h h':Heap):Prop where
 keep:∀ b o,h.get? b=some o->H b=none->b ∉ fs->b ∉ ex->h'.get? b=some o
 slot:∀ b o,h.get? b=some o->H b=none->b∈fs->b ∉ ex->∃ sl,h'.get? b=some { o with slots:=sl }
 free:∀ b o,h.get? b=some o->H b=none->b ∉ ex->H' b=none
 there:∀ b o,h.get? b=some o->b ∉ ex->∃ o',h'.get? b=some o'
 tups:∀ b xs,H b=some (.tup xs)->H' b=some (.tup xs)
 frzs:∀ b o u,H b=some (.frz o u)->H' b=some (.frz o u)
 tbls:∀ b ps,H b=some (.tbl ps)->∃ more,H' b=some (.tbl (ps ++ more))
section
variable {fs fs' ex ex':List Addr} {H H1 H2:Hp} {h h1 h2 h':Heap} {a x e:Addr} {o:HO}
theorem Un.any (u:Un fs ex H H1 h h1) {b:Addr} {ob:Obj} (q:h.get? b=some ob) (n:H b=none) (hx:b ∉ ex):∃ sl,h1.get? b=some { ob with slots:=sl }:=by
 by_cases hb:b∈fs
 ·exact u.slot b ob q n hb hx
 ·exact ⟨ob.slots,u.keep b ob q n hb hx⟩
theorem Un.kept (k:∀ b u,h.get? b=some u->h'.get? b=some u):Un fs ex H H h h' :=
 ⟨fun b ob q _ _ _=>k b ob q,fun b ob q _ _ _=>⟨ob.slots,k b ob q⟩,fun _ _ _ n _=>n,fun b ob q _=>⟨ob,k b ob q⟩,fun _ _ q=>q,fun _ _ _ q=>q,fun _ ps q=>⟨#[],by rw [q]; simp⟩⟩
theorem Un.refl:Un fs ex H H h h:=Un.kept fun _ _ q=>q
theorem Un.laid (k:∀ b u,h.get? b=some u->h'.get? b=some u) (hp:h.objs.size<=a) (hn:H a=none):Un fs ex H (upd H a o) h h' where
 keep:=fun b u q _ _ _=>k b u q
 slot:=fun b u q _ _ _=>⟨u.slots,k b u q⟩
 free:=fun b u q n _=>by rw [upd_ne (Nat.ne_of_lt (Nat.lt_of_lt_of_le (Heap.lt_size q) hp))]; exact n
 there:=fun b u q _=>⟨u,k b u q⟩
 tups:=fun b xs q=>by rw [upd_ne (ne_of_none q hn)]; exact q
 frzs:=fun b u xs q=>by rw [upd_ne (ne_of_none q hn)]; exact q
 tbls:=fun b ps q=>⟨#[],by rw [upd_ne (ne_of_none q hn),q]; simp⟩
theorem Un.write (mu:Mut (H x)) (he:e=x\/H e=some (.own x)) (k:∀ b u,b≠e->h.get? b=some u->h'.get? b=some u) (heo:∃ u,h'.get? e=some u):Un fs ex H (upd H x o) h h':=by
 have hx:∀ b,H b=none->b≠x:=fun b n z=>by subst z; rw [n] at mu; exact mu
 have hb:∀ b,H b=none->b≠e:=fun b n z=>by
  subst z
  rcases he with r | r
  ·exact hx b n r
  ·rw [n] at r; cases r
 have hm:∀ b u,H b=some u->¬ Mut (some u)->b≠x:=fun b u q nm z=>by subst z; rw [q] at mu; exact nm mu
 refine ⟨fun b u q n _ _=>k b u (hb b n) q,fun b u q n _ _=>⟨u.slots,k b u (hb b n) q⟩,fun b u q n _=>by rw [upd_ne (hx b n)]; exact n,fun b u q _=>?_,
  fun b xs q=>by rw [upd_ne (hm b _ q fun z=>z)]; exact q,fun b u xs q=>by rw [upd_ne (hm b _ q fun z=>z)]; exact q,fun b ps q=>⟨#[],by rw [upd_ne (hm b _ q fun z=>z),q]; simp⟩⟩
 by_cases hbe:b=e
 ·subst hbe; exact heo
 ·exact ⟨u,k b u hbe q⟩
end
def trk (h:Heap) (H:Hp):List Addr:=(List.range h.objs.size).filter fun a=>(H a).isSome
def hidT (h:Heap) (H:Hp):Heap:=PySem.W.hideAll h (trk h H)
theorem hidT_size (h:Heap) (H:Hp):(hidT h H).objs.size=h.objs.size:=PySem.W.hideAll_size _ _
theorem hidT_get {h:Heap} {H:Hp} {b:Addr} {o:Obj} (e:h.get? b=some o) (n:H b=none):(hidT h H).get? b=some o :=
 PySem.W.hideAll_get _ e fun hm=>by
  have q:(H b).isSome=true:=(List.mem_filter.mp hm).2
  rw [n] at q; simp at q
theorem of_hidT {h:Heap} {H:Hp} {b:Addr} {o:Obj} (e:(hidT h H).get? b=some o):h.get? b=some o/\H b=none:=by
 have e':h.get? b=some o:=PySem.W.of_hideAll (trk h H) e
 refine ⟨e',?_⟩
 cases q:H b with
 | none=>rfl
 | some x =>
  have hm:b∈trk h H:=List.mem_filter.mpr ⟨List.mem_range.mpr (Heap.lt_size e'),by simp [q]⟩
  have z:(hidT h H).get? b=none:=PySem.W.hideAll_none (trk h H) hm
  rw [z] at e; cases e
end L2
namespace L2
open PySem PySem.Spec PyProof.Rows
structure Mod (K:PySem.W.Frag) (mg:Str->Option Value) (base:Heap):Prop where
 kin:K.In base
 glob:base.Ns mainGlobals mg
 blt:∃ mb,base.Ns builtinsNs mb/\∀ x:Str,x≠"__name__"->mb x=bootBuiltins x
 nolimit:base.NoLimit
structure Cx where
 prog:Program
 w:World
 K:PySem.W.Frag
 mg:Str->Option Value
 base:Heap
 A:Around
 N:List Str
 s_0:Shared
 H_0:Hp
 env:Env
 outer:List Env
 stack:List Env
 ex:List Addr
 fn:Str->Bool
 calm:Bool
 pn:List (Addr×Obj)
 xe:Value->Shared->Prop
def frs (l:List Env):List Addr:=l.filterMap (·.frame)
abbrev Cx.fs (X:Cx):List Addr:=frs X.outer
def Vis (sc:Scope) (x:Str):Prop:=sc.names.lookup x=some .local\/sc.names.lookup x=some .cell\/sc.names.lookup x=some .free
def Loc (sc:Scope) (x:Str):Prop:=sc.names.lookup x=some .local\/sc.names.lookup x=some .cell
def Look (env:Env) (h:Heap) (m:Str->Option Value) (x:Str) (u:Value):Prop :=
 (env.kindOf x=some .local/\m x=some u)\/((env.kindOf x=some .cell\/env.kindOf x=some .free)/\∃ c,env.cells.lookup x=some c/\h.IsCell c (some u))
structure Cx.Ok (X:Cx):Prop where
 mod:Mod X.K X.mg X.base
 kind:X.env.scope.kind=.function
 glob:X.env.globals=mainGlobals
 blt:X.env.builtins=builtinsNs
 above:X.s_0.heap.objs.size<=X.env.locals
 inj:∀ x y c,X.env.cells.lookup x=some c->X.env.cells.lookup y=some c->x=y
 has:∀ x,(X.env.kindOf x=some .cell\/X.env.kindOf x=some .free)->∃ c,X.env.cells.lookup x=some c
 cab:∀ x c,X.fn x=true->X.env.cells.lookup x=some c->X.s_0.heap.objs.size<=c
 hd:X.calm=true->X.A.handled=none
 frames:X.A.frames=some X.stack
 stk:X.stack=X.outer\/(X.stack=X.env :: X.outer/\X.env.frame=some X.env.locals)
 exf:∀ b∈X.ex,b≠X.env.locals/\∀ x c,X.env.cells.lookup x=some c->c≠b
 bs:∀ b o,X.base.get? b=some o->X.s_0.heap.get? b=some o/\X.H_0 b=none
 bsz:X.base.objs.size<=X.s_0.heap.objs.size
 noex:∀ b o,X.base.get? b=some o->b ∉ X.ex
 exfs:∀ b∈X.ex,b ∉ X.fs
 funs:X.s_0.heap.FunFrames X.base X.outer
 frf:∀ b∈X.fs,X.H_0 b=none
structure Inv (X:Cx) (pins:List (Addr×Obj)) (σ:List (Option V)) (H:Hp) (s:Shared):Prop where
 ok:X.Ok
 os:s.os=X.s_0.os
 bare:AllBare s.gens
 base:Un X.fs X.ex X.H_0 H X.s_0.heap s.heap
 loc:∃ m,s.heap.Ns X.env.locals m/\∀ (i:Nat) (x:Str) (v:V),X.N[i]? = some x->σ[i]? = some (some v)->Vis X.env.scope x->∃ u,RelV v u/\Look X.env s.heap m x u
 cell:∀ x c,X.env.cells.lookup x=some c->∃ v,s.heap.IsCell c v
 free:H X.env.locals=none
 freeC:∀ x c,X.env.cells.lookup x=some c->H c=none
 pin:∀ p∈X.pn ++ pins,s.heap.get? p.1=some p.2/\H p.1=none/\p.1≠X.env.locals/\p.1 ∉ X.fs/\∀ v,p.2.data≠.cell v
 hok:HOk X.prog X.w H s.heap
 len:σ.length=X.N.length
section
variable {X:Cx} {pins:List (Addr×Obj)} {σ:List (Option V)} {H H':Hp} {s:Shared} {h':Heap}
theorem Cx.Ok.nofr (ok:X.Ok) {b:Addr} {o:Obj} (e:X.base.get? b=some o):b ∉ X.fs:=fun hb=>by
 have:=(ok.funs.mem hb).1
 rw [e] at this; cases this
theorem Inv.bs (I:Inv X pins σ H s):∀ b o,X.base.get? b=some o->s.heap.get? b=some o/\H b=none:=fun b o e =>
 ⟨I.base.keep b o (I.ok.bs b o e).1 (I.ok.bs b o e).2 (I.ok.nofr e) (I.ok.noex b o e),I.base.free b o (I.ok.bs b o e).1 (I.ok.bs b o e).2 (I.ok.noex b o e)⟩
theorem Inv.bk (I:Inv X pins σ H s):∀ b o,X.base.get? b=some o->s.heap.get? b=some o:=fun b o e=>(I.bs b o e).1
theorem Inv.mod (I:Inv X pins σ H s):Mod X.K X.mg X.base:=I.ok.mod
theorem Inv.kIn (I:Inv X pins σ H s):X.K.In s.heap:=I.ok.mod.kin.keeps I.bk
theorem Inv.lt (I:Inv X pins σ H s):X.env.locals < s.heap.objs.size:=let ⟨_,hn,_⟩:=I.loc; hn.lt
theorem Inv.sz (I:Inv X pins σ H s):X.s_0.heap.objs.size<=s.heap.objs.size:=Nat.le_trans I.ok.above (Nat.le_of_lt I.lt)
theorem Inv.nofs (I:Inv X pins σ H s) {a:Addr} (h:s.heap.objs.size<=a):a ∉ X.fs:=fun hb=>by
 obtain ⟨_,o,ho,_⟩:=I.ok.funs.mem hb
 exact absurd (Nat.lt_of_lt_of_le (Heap.lt_size ho) (Nat.le_trans I.sz h)) (Nat.lt_irrefl _)
theorem Inv.cne (I:Inv X pins σ H s):∀ x c,X.env.cells.lookup x=some c->c≠X.env.locals:=fun x c e z=>by
 obtain ⟨v,o,ho,hd⟩:=I.cell x c e
 obtain ⟨m,⟨o',es,ep,ho',hd',_⟩,_⟩:=I.loc
 rw [z,ho'] at ho; cases ho; rw [hd'] at hd; cases hd
theorem Inv.funs (I:Inv X pins σ H s):s.heap.FunFrames X.base X.outer:=by
 have all:∀ (l:List Env),(∀ b∈frs l,b∈X.fs)->X.s_0.heap.FunFrames X.base l->s.heap.FunFrames X.base l:=by
  intro l
  induction l with
  | nil=>intro _ _; trivial
  | cons env r ih =>
   intro hs hl
   obtain ⟨hk,⟨L,o,hf,hn,ho,hd⟩,hr⟩:=hl
   have hL:L∈X.fs:=hs L (by unfold frs; rw [List.filterMap_cons,hf]; exact List.mem_cons_self)
   obtain ⟨sl,e⟩:=I.base.slot L o ho (I.ok.frf L hL) hL fun z=>I.ok.exfs L z hL
   exact ⟨hk,⟨L,_,hf,hn,e,hd⟩,ih (fun b hb=>hs b (by unfold frs; rw [List.filterMap_cons,hf]; exact List.mem_cons_of_mem _ hb)) hr⟩
 exact all X.outer (fun _ hb=>hb) I.ok.funs
theorem Inv.stack (I:Inv X pins σ H s):s.heap.FunFrames X.base X.stack:=by
 rcases I.ok.stk with e | ⟨e,hf⟩
 ·rw [e]; exact I.funs
 ·rw [e]
  obtain ⟨m,hn,_⟩:=I.loc
  refine .cons (by rw [I.ok.kind]; decide) hf hn ?_ I.funs
  exact Heap.get?_none_of_le (Nat.le_trans I.ok.bsz I.ok.above)
theorem Inv.stkSub (I:Inv X pins σ H s):∀ b∈frs X.stack,b∈X.env.locals :: X.fs:=fun b hb=>by
 rcases I.ok.stk with e | ⟨e,hf⟩
 ·rw [e] at hb; exact List.mem_cons_of_mem _ hb
 ·rw [e] at hb
  unfold frs at hb
  rw [List.filterMap_cons,hf] at hb
  exact hb
theorem Inv.stkFree (I:Inv X pins σ H s):∀ b∈frs X.stack,H b=none:=fun b hb=>by
 rcases List.mem_cons.mp (I.stkSub b hb) with e | hb
 ·rw [e]; exact I.free
 ·obtain ⟨_,o,ho,_⟩:=I.ok.funs.mem hb
  exact I.base.free b o ho (I.ok.frf b hb) fun z=>I.ok.exfs b z hb
theorem Inv.step {g':Array GenState} {t':Nat} {d':Drawn} {ch:List Addr} (I:Inv X pins σ H s)
  (hch:∀ b∈ch,(b∈X.ex\/X.s_0.heap.objs.size<=b)/\b≠X.env.locals/\(∀ x c,X.env.cells.lookup x=some c->c≠b)/\∀ p∈X.pn ++ pins,p.1≠b)
  (keep:∀ b o,b≠X.env.locals->b ∉ X.fs->b ∉ ch->s.heap.get? b=some o->H b=none->h'.get? b=some o)
  (slot:∀ b o,b≠X.env.locals->b∈X.fs->b ∉ ch->s.heap.get? b=some o->H b=none->∃ sl,h'.get? b=some { o with slots:=sl }) (free:∀ b o,b ∉ ch->s.heap.get? b=some o->H b=none->H' b=none)
  (there:∀ b o,b ∉ ch->s.heap.get? b=some o->∃ o',h'.get? b=some o')
  (tups:∀ b xs,H b=some (.tup xs)->H' b=some (.tup xs)) (frzs:∀ b o u,H b=some (.frz o u)->H' b=some (.frz o u)) (tbls:∀ b ps,H b=some (.tbl ps)->∃ more,H' b=some (.tbl (ps ++ more)))
  (ns:∀ m,s.heap.Ns X.env.locals m->h'.Ns X.env.locals m) (hok:HOk X.prog X.w H' h') (hg:AllBare g') :
  Inv X pins σ H' { s with heap:=h',gens:=g',drawn:=d',toks:=t' }:=by
 have neL:∀ b o,X.s_0.heap.get? b=some o->b≠X.env.locals:=fun b o e=>Nat.ne_of_lt (Nat.lt_of_lt_of_le (Heap.lt_size e) I.ok.above)
 have neC:∀ b o,X.s_0.heap.get? b=some o->b ∉ X.ex->b ∉ ch:=fun b o e hx hb=>by
  rcases (hch b hb).1 with z | z
  ·exact hx z
  ·exact absurd (Nat.lt_of_lt_of_le (Heap.lt_size e) z) (Nat.lt_irrefl _)
 have cellK:∀ x c,X.env.cells.lookup x=some c->∀ v,s.heap.IsCell c v->h'.IsCell c v:=fun x c e v ⟨o,ho,hd⟩=>by
  have nch:c ∉ ch:=fun z=>(hch c z).2.2.1 x c e rfl
  by_cases hc:c∈X.fs
  ·obtain ⟨sl,q⟩:=slot c o (I.cne x c e) hc nch ho (I.freeC x c e)
   exact ⟨_,q,hd⟩
  ·exact ⟨o,keep c o (I.cne x c e) hc nch ho (I.freeC x c e),hd⟩
 refine ⟨I.ok,I.os,hg,⟨fun b o e n hb hx=>?_,fun b o e n hb hx=>?_,fun b o e n hx=>?_,fun b o e hx=>?_,fun b xs e=>tups b xs (I.base.tups b xs e),fun b o xs e=>frzs b o xs (I.base.frzs b o xs e),fun b ps e=>?_⟩,?_,fun x c e=>?_,?_,fun x c e=>?_,fun p hp=>?_,hok,I.len⟩
 ·exact keep b o (neL b o e) hb (neC b o e hx) (I.base.keep b o e n hb hx) (I.base.free b o e n hx)
 ·obtain ⟨sl,e1⟩:=I.base.slot b o e n hb hx
  obtain ⟨sl',e2⟩:=slot b _ (neL b o e) hb (neC b o e hx) e1 (I.base.free b o e n hx)
  exact ⟨sl',e2⟩
 ·obtain ⟨o',e1⟩:=I.base.there b o e hx
  exact free b o' (neC b o e hx) e1 (I.base.free b o e n hx)
 ·obtain ⟨o',e1⟩:=I.base.there b o e hx
  exact there b o' (neC b o e hx) e1
 ·obtain ⟨m1,e1⟩:=I.base.tbls b ps e
  obtain ⟨m2,e2⟩:=tbls b _ e1
  exact ⟨m1 ++ m2,by rw [e2,Array.append_assoc]⟩
 ·obtain ⟨m,hn,hl⟩:=I.loc
  refine ⟨m,ns m hn,fun i x v e1 e2 e3=>?_⟩
  obtain ⟨u,r,l⟩:=hl i x v e1 e2 e3
  refine ⟨u,r,?_⟩
  rcases l with l | ⟨k,c,e,z⟩
  ·exact .inl l
  ·exact .inr ⟨k,c,e,cellK x c e _ z⟩
 ·obtain ⟨v,z⟩:=I.cell x c e
  exact ⟨v,cellK x c e v z⟩
 ·obtain ⟨m,⟨o,_,_,ho,_⟩,_⟩:=I.loc
  exact free _ o (fun z=>(hch _ z).2.1 rfl) ho I.free
 ·obtain ⟨v,o,ho,hd⟩:=I.cell x c e
  exact free c o (fun z=>(hch c z).2.2.1 x c e rfl) ho (I.freeC x c e)
 ·obtain ⟨e,n,ne,nf,d⟩:=I.pin p hp
  have nch:p.1 ∉ ch:=fun z=>(hch p.1 z).2.2.2 p hp rfl
  exact ⟨keep p.1 p.2 ne nf nch e n,free p.1 p.2 nch e n,ne,nf,d⟩
theorem Inv.un {t':Nat} (I:Inv X pins σ H s) (u:Un X.fs [] H H' s.heap h') (hok:HOk X.prog X.w H' h'):Inv X pins σ H' { s with heap:=h',toks:=t' }:=by
 obtain ⟨m,⟨o,es,ep,ho,r⟩,_⟩:=id I.loc
 obtain ⟨sl,hL⟩:=u.any ho I.free (by simp)
 exact I.step (g':=s.gens) (d':=s.drawn) (ch:=[]) (fun _ z=>nomatch z) (fun b o _ hb _ e n=>u.keep b o e n hb (by simp)) (fun b o _ hb _ e n=>u.slot b o e n hb (by simp)) (fun b o _ e n=>u.free b o e n (by simp)) (fun b o _ e=>u.there b o e (by simp)) u.tups u.frzs u.tbls (fun m' hm=>by
  obtain ⟨o',es',ep',ho',r'⟩:=hm
  rw [ho] at ho'; cases ho'
  exact ⟨_,es',ep',hL,r'⟩) hok I.bare
theorem Inv.call {g':Array GenState} {t':Nat} {d':Drawn} {ch:List Addr} (I:Inv X pins σ H s) (u:Un (frs X.stack) ch H H' s.heap h') (hok:HOk X.prog X.w H' h') (hg:AllBare g')
  (hch:∀ b∈ch,(b∈X.ex\/X.s_0.heap.objs.size<=b)/\b≠X.env.locals/\(∀ x c,X.env.cells.lookup x=some c->c≠b)/\∀ p∈X.pn ++ pins,p.1≠b) :
  Inv X pins σ H' { s with heap:=h',gens:=g',drawn:=d',toks:=t' }:=by
 obtain ⟨m,⟨o,es,ep,ho,r⟩,_⟩:=id I.loc
 obtain ⟨sl,hL⟩:=u.any ho I.free fun z=>(hch _ z).2.1 rfl
 exact I.step (ch:=ch) hch (fun b o hL hb hc e n=>u.keep b o e n (fun z=>(List.mem_cons.mp (I.stkSub b z)).elim hL hb) hc) (fun b o _ _ hc e n=>u.any e n hc) (fun b o hc e n=>u.free b o e n hc) (fun b o hc e=>u.there b o e hc) u.tups u.frzs u.tbls (fun m' hm=>by
  obtain ⟨o',es',ep',ho',r'⟩:=hm
  rw [ho] at ho'; cases ho'
  exact ⟨_,es',ep',hL,r'⟩) hok hg
theorem Inv.turned {t':Nat} {it:Addr} (I:Inv X pins σ H s) (k:∀ b o,b≠it->s.heap.get? b=some o->h'.get? b=some o) (hn:H it=none) (hL:it≠X.env.locals)
  (h1:it∈X.ex\/X.s_0.heap.objs.size<=it) (h2:∀ x c,X.env.cells.lookup x=some c->c≠it) (h3:∀ p∈X.pn ++ pins,p.1≠it):Inv X pins σ H { s with heap:=h',toks:=t' }:=by
 have nit:∀ b u,H b=some u->b≠it:=fun b u e z=>by rw [z,hn] at e; cases e
 refine I.step (g':=s.gens) (d':=s.drawn) (ch:=[it]) (fun b hb=>?_) (fun b o _ _ hc e _=>k b o (fun z=>hc (by simp [z])) e) (fun b o _ _ hc e _=>⟨o.slots,k b o (fun z=>hc (by simp [z])) e⟩) (fun _ _ _ _ n=>n)
  (fun b o hc e=>⟨o,k b o (fun z=>hc (by simp [z])) e⟩) (fun _ _ e=>e) (fun _ _ _ e=>e) (fun b ps e=>⟨#[],by rw [e]; simp⟩) (fun m hm=>?_) (fun b u e=>?_) I.bare
 ·have e:b=it:=by simpa using hb
  subst e
  exact ⟨h1,hL,h2,h3⟩
 ·obtain ⟨o,es,ep,ho,r⟩:=hm
  exact ⟨o,es,ep,k _ o (Ne.symm hL) ho,r⟩
 ·refine (I.hok b u e).stay (fun c v hc q=>k c v ?_ q) (fun _ q=>q) fun _ _ q=>q
  rcases hc with z | z
  ·rw [z]; exact nit b u e
  ·exact nit c _ z
theorem Inv.tok (I:Inv X pins σ H s) (t:Nat):Inv X pins σ H { s with toks:=t }:=I.un (h':=s.heap) (t':=t) Un.refl I.hok
theorem Inv.kept {t':Nat} (I:Inv X pins σ H s) (k:∀ b u,s.heap.get? b=some u->h'.get? b=some u):Inv X pins σ H { s with heap:=h',toks:=t' }:=I.un (Un.kept k) (I.hok.kept k)
theorem Inv.laid {a:Addr} {o:HO} {t':Nat} (I:Inv X pins σ H s) (k:∀ b u,s.heap.get? b=some u->h'.get? b=some u) (hp:s.heap.objs.size<=a) (new:ObjOk X.prog X.w (upd H a o) h' a o) :
  Inv X pins σ (upd H a o) { s with heap:=h',toks:=t' }:=I.un (Un.laid k hp (I.hok.fresh hp)) (I.hok.laid k hp new)
theorem Inv.write {x e:Addr} {o:HO} {t':Nat} (I:Inv X pins σ H s) (mu:Mut (H x)) (he:e=x\/H e=some (.own x)) (k:∀ b u,b≠e->s.heap.get? b=some u->h'.get? b=some u) (heo:∃ u,h'.get? e=some u)
  (new:ObjOk X.prog X.w (upd H x o) h' x o):Inv X pins σ (upd H x o) { s with heap:=h',toks:=t' }:=I.un (Un.write mu he k heo) (I.hok.write mu he k heo new)
theorem Inv.weak {σ':List (Option V)} (I:Inv X pins σ H s) (hl:σ'.length = σ.length) (w:∀ (i:Nat) v,σ'[i]? = some (some v)->σ[i]? = some (some v)):Inv X pins σ' H s :=
 ⟨I.ok,I.os,I.bare,I.base,let ⟨m,hn,hl'⟩:=I.loc; ⟨m,hn,fun i x v e1 e2 e3=>hl' i x v e1 (w i v e2) e3⟩,I.cell,I.free,I.freeC,I.pin,I.hok,hl.trans I.len⟩
theorem Inv.pins_of {pins':List (Addr×Obj)} (I:Inv X pins σ H s) (h:∀ p∈pins',s.heap.get? p.1=some p.2/\H p.1=none/\p.1≠X.env.locals/\p.1 ∉ X.fs/\∀ v,p.2.data≠.cell v):Inv X pins' σ H s :=
 ⟨I.ok,I.os,I.bare,I.base,I.loc,I.cell,I.free,I.freeC,fun p hp=>(List.mem_append.mp hp).elim (fun z=>I.pin p (List.mem_append_left _ z)) (h p),I.hok,I.len⟩
theorem nodup_ix {N:List Str} (hN:N.Nodup) {i j:Nat} {x:Str} (a:N[i]? = some x) (b:N[j]? = some x):i=j:=by
 obtain ⟨h1,e1⟩:=List.getElem?_eq_some_iff.mp a
 obtain ⟨h2,e2⟩:=List.getElem?_eq_some_iff.mp b
 exact (List.getElem_inj hN).mp (e1.trans e2.symm)
theorem store_ok2 {M:Model} {A:Around} {E:Value->Shared->Prop} {i:Nat} {x:Str} {v:V} {u:Value} {Q:Unit->Shared->Prop} (I:Inv X pins σ H s) (hN:X.N.Nodup) (hi:X.N[i]? = some x) (hx:Loc X.env.scope x) (r:RelV v u)
  (h:∀ s',Inv X pins (σ.set i (some v)) H s'->(∃ a,Heap.SameBut a s.heap s'.heap/\(a=X.env.locals\/X.env.cells.lookup x=some a))->Q () s') (hf:X.fn x=true\/X.env.scope.names.lookup x=some .local:=by first | exact .inl rfl | exact .inr rfl | assumption):wpAny M A (storeName X.env x u) Q E s:=by
 obtain ⟨m,hn,hl⟩:=id I.loc
 have hcls:(X.env.scope.kind == .class || (X.env.scope.kind == .module && X.env.locals != X.env.globals))=false:=by rw [I.ok.kind]; rfl
 have hiσ:i < σ.length:=by rw [I.len]; exact (List.getElem?_eq_some_iff.mp hi).1
 have cne:=I.cne
 have tracked:∀ {a:Addr} {h':Heap},(∃ o,s.heap.get? a=some o/\H a=none)->Heap.SameBut a s.heap h'->HOk X.prog X.w H h':=fun {a h'} ha hs b ob e=>by
  obtain ⟨_,_,hfree⟩:=ha
  refine (I.hok b ob e).stay (fun c w' hc q=>(hs.2 c ?_).trans q) (fun _ q=>q) fun _ _ q=>q
  rintro rfl
  rcases hc with rfl | hc
  ·rw [hfree] at e; cases e
  ·rw [hfree] at hc; cases hc
 rcases hx with hk | hk
 ·refine wpAny_storeName_local hk hn (fun h' hn' hs=>?_) hcls
  obtain ⟨oL,_,_,hoL,_⟩:=id hn
  refine h _ ⟨I.ok,I.os,I.bare,⟨fun b o e n hb hx=>?_,fun b o e n hb hx=>?_,I.base.free,fun b o e hx=>?_,I.base.tups,I.base.frzs,I.base.tbls⟩,⟨_,hn',fun j y v' e1 e2 e3=>?_⟩,fun y c e=>?_,I.free,I.freeC,fun p hp=>?_,tracked ⟨oL,hoL,I.free⟩ hs,by simpa using I.len⟩ ⟨_,hs,.inl rfl⟩
  ·exact (hs.2 b (Nat.ne_of_lt (Nat.lt_of_lt_of_le (Heap.lt_size e) I.ok.above))).trans (I.base.keep b o e n hb hx)
  ·obtain ⟨sl,e1⟩:=I.base.slot b o e n hb hx
   exact ⟨sl,(hs.2 b (Nat.ne_of_lt (Nat.lt_of_lt_of_le (Heap.lt_size e) I.ok.above))).trans e1⟩
  ·obtain ⟨o',e1⟩:=I.base.there b o e hx
   exact ⟨o',(hs.2 b (Nat.ne_of_lt (Nat.lt_of_lt_of_le (Heap.lt_size e) I.ok.above))).trans e1⟩
  · by_cases hj : j = i
    · subst hj
      rw [hi] at e1; cases e1
      rw [List.getElem?_set_self hiσ] at e2
      cases e2
      exact ⟨u,r,.inl ⟨hk,by simp⟩⟩
    · rw [List.getElem?_set_ne (Ne.symm hj)] at e2
      obtain ⟨u',r',q⟩:=hl j y v' e1 e2 e3
      refine ⟨u',r',?_⟩
      rcases q with ⟨k,e⟩ | ⟨k,c,e,z⟩
      · refine .inl ⟨k,?_⟩
        have:y≠x:=fun e=>hj (nodup_ix hN e1 (e ▸ hi))
        simp [this,e]
      · exact .inr ⟨k,c,e,z.sameBut hs (cne y c e)⟩
  ·obtain ⟨w',z⟩:=I.cell y c e
   exact ⟨w',z.sameBut hs (cne y c e)⟩
  ·obtain ⟨e,n,ne,nf,d⟩:=I.pin p hp
   exact ⟨(hs.2 p.1 ne).trans e,n,ne,nf,d⟩
 ·have hfn:X.fn x=true:=by
   rcases hf with z | z
   ·exact z
   ·rw [z] at hk; cases hk
  obtain ⟨c,hc⟩:=I.ok.has x (.inl hk)
  obtain ⟨w',z⟩:=I.cell x c hc
  refine wpAny_storeName_cell I.ok.kind hk hc z (fun h' hc' hs=>?_)
  obtain ⟨oc,hoc,hocd⟩:=id z
  refine h { s with heap:=h' } ⟨I.ok,I.os,I.bare,⟨fun b o e n hb hx=>?_,fun b o e n hb hx=>?_,I.base.free,fun b o e hx=>?_,I.base.tups,I.base.frzs,I.base.tbls⟩,⟨m,hn.sameBut hs (Ne.symm (cne x c hc)),fun j y v' e1 e2 e3=>?_⟩,fun y c' e=>?_,I.free,I.freeC,fun p hp=>?_,tracked ⟨oc,hoc,I.freeC x c hc⟩ hs,by simpa using I.len⟩ ⟨c,hs,.inr hc⟩
  ·exact (hs.2 b (Nat.ne_of_lt (Nat.lt_of_lt_of_le (Heap.lt_size e) (I.ok.cab x c hfn hc)))).trans (I.base.keep b o e n hb hx)
  ·obtain ⟨sl,e1⟩:=I.base.slot b o e n hb hx
   exact ⟨sl,(hs.2 b (Nat.ne_of_lt (Nat.lt_of_lt_of_le (Heap.lt_size e) (I.ok.cab x c hfn hc)))).trans e1⟩
  ·obtain ⟨o',e1⟩:=I.base.there b o e hx
   exact ⟨o',(hs.2 b (Nat.ne_of_lt (Nat.lt_of_lt_of_le (Heap.lt_size e) (I.ok.cab x c hfn hc)))).trans e1⟩
  · by_cases hj : j = i
    · subst hj
      rw [hi] at e1; cases e1
      rw [List.getElem?_set_self hiσ] at e2
      cases e2
      exact ⟨u,r,.inr ⟨.inl hk,c,hc,hc'⟩⟩
    · rw [List.getElem?_set_ne (Ne.symm hj)] at e2
      obtain ⟨u',r',q⟩:=hl j y v' e1 e2 e3
      refine ⟨u',r',?_⟩
      rcases q with q | ⟨k,c',e,z'⟩
      · exact .inl q
      · refine .inr ⟨k,c',e,z'.sameBut hs ?_⟩
        rintro rfl
        exact hj (nodup_ix hN e1 (I.ok.inj _ _ _ e hc ▸ hi))
  · by_cases hcc : c' = c
    · subst hcc; exact ⟨_,hc'⟩
    · obtain ⟨w2,z2⟩:=I.cell y c' e
      exact ⟨w2,z2.sameBut hs hcc⟩
  ·obtain ⟨e,n,ne,nf,d⟩:=I.pin p hp
   refine ⟨(hs.2 p.1 ?_).trans e,n,ne,nf,d⟩
   intro q
   rw [q,hoc] at e
   have q':oc=p.2:=Option.some.inj e
   exact d w' (by rw [← q']; exact hocd)
theorem store_ok {M:Model} {A:Around} {E:Value->Shared->Prop} {i:Nat} {x:Str} {v:V} {u:Value} {Q:Unit->Shared->Prop} (I:Inv X pins σ H s) (hN:X.N.Nodup) (hi:X.N[i]? = some x) (hx:Loc X.env.scope x) (r:RelV v u)
  (h:∀ s',Inv X pins (σ.set i (some v)) H s'->Q () s') (hf:X.fn x=true\/X.env.scope.names.lookup x=some .local:=by first | exact .inl rfl | exact .inr rfl | assumption):wpAny M A (storeName X.env x u) Q E s :=
 store_ok2 I hN hi hx r (fun s' I' _=>h s' I') hf
theorem Inv.call' {s':Shared} {ch:List Addr} (I:Inv X pins σ H s) (ho:s'.os=s.os) (u:Un (frs X.stack) ch H H' s.heap s'.heap) (hok:HOk X.prog X.w H' s'.heap) (hg:AllBare s'.gens)
  (hch:∀ b∈ch,(b∈X.ex\/X.s_0.heap.objs.size<=b)/\b≠X.env.locals/\(∀ x c,X.env.cells.lookup x=some c->c≠b)/\∀ p∈X.pn ++ pins,p.1≠b):Inv X pins σ H' s':=by
 obtain ⟨h',g',d',t',o'⟩:=s'
 have e:o'=s.os:=ho
 subst e
 exact I.call (g':=g') (t':=t') (d':=d') u hok hg hch
end
abbrev XK:=Value->Option Addr->Hp->Prop
abbrev St:=List (Option V)
abbrev VK:=V->Hp->Prop
abbrev TE:=St->Hp->VK->Prop
abbrev TT:=St->Hp->(Bool->Hp->Prop)->Prop
abbrev TA:=St->Hp->(List V->Hp->Prop)->Prop
structure Ends where
 nx:St->Hp->Prop
 rt:VK
 bk:St->Hp->Prop:=fun _ _=>False
 ct:St->Hp->Prop:=fun _ _=>False
abbrev TS:=Ends->St->Hp->Prop
def EP (X:Cx) (pins:List (Addr×Obj)) (σ:St) (Q:VK) (u:Value) (s':Shared):Prop:=∃ v H',Inv X pins σ H' s'/\RelV v u/\Q v H'
def TP (X:Cx) (pins:List (Addr×Obj)) (σ:St) (Q:Bool->Hp->Prop) (b:Bool) (s':Shared):Prop:=∃ H',Inv X pins σ H' s'/\Q b H'
def AP (X:Cx) (pins:List (Addr×Obj)) (σ:St) (Q:List V->Hp->Prop) (us:List Value) (s':Shared):Prop:=∃ vs H',Inv X pins σ H' s'/\Vals vs us/\Q vs H'
def SP (X:Cx) (pins:List (Addr×Obj)) (D:Ends) (f:Flow) (s':Shared):Prop :=
 match f with
 | .next=>∃ σ' H',Inv X pins σ' H' s'/\D.nx σ' H'
 | .brk=>∃ σ' H',Inv X pins σ' H' s'/\D.bk σ' H'
 | .cont=>∃ σ' H',Inv X pins σ' H' s'/\D.ct σ' H'
 | .ret u=>∃ v σ' H',Inv X pins σ' H' s'/\RelV v u/\D.rt v H'
def PE (X:Cx) (e:Expr) (t:TE):Prop :=
 ∀ (pins:List (Addr×Obj)) (s:Shared) (σ:St) (H:Hp) (Q:VK),Inv X pins σ H s->t σ H Q->wpAny (model X.prog X.w) X.A (eval e X.env) (EP X pins σ Q) X.xe s
def PT (X:Cx) (e:Expr) (t:TT):Prop :=
 ∀ (pins:List (Addr×Obj)) (s:Shared) (σ:St) (H:Hp) (Q:Bool->Hp->Prop),Inv X pins σ H s->t σ H Q->wpAny (model X.prog X.w) X.A (isTrue e X.env (eval e X.env)) (TP X pins σ Q) X.xe s
def PW (X:Cx) (e:Expr) (t:TT):Prop :=
 ∀ (whole:Sem Value) (pins:List (Addr×Obj)) (s:Shared) (σ:St) (H:Hp) (Q:Bool->Hp->Prop),Inv X pins σ H s->t σ H Q->wpAny (model X.prog X.w) X.A (isTrue e X.env whole) (TP X pins σ Q) X.xe s
theorem PW.pt {X:Cx} {e:Expr} {t:TT} (h:PW X e t):PT X e t:=h _
def PA (X:Cx) (es:List Expr) (t:TA):Prop :=
 ∀ (pos:Pos) (pins:List (Addr×Obj)) (s:Shared) (σ:St) (H:Hp) (Q:List V->Hp->Prop),Inv X pins σ H s->t σ H Q->wpAny (model X.prog X.w) X.A (spliced (backTo pos (starEach es X.env))) (AP X pins σ Q) X.xe s
def PS (X:Cx) (st:Stmt) (t:TS):Prop :=
 ∀ (pins:List (Addr×Obj)) (s:Shared) (σ:St) (H:Hp) (D:Ends),Inv X pins σ H s->t D σ H->wpAny (model X.prog X.w) X.A (exec st X.env) (SP X pins D) X.xe s
def PSs (X:Cx) (st:List Stmt) (t:TS):Prop :=
 ∀ (pins:List (Addr×Obj)) (s:Shared) (σ:St) (H:Hp) (D:Ends),Inv X pins σ H s->t D σ H->wpAny (model X.prog X.w) X.A (execs st X.env) (SP X pins D) X.xe s
theorem thn {α:Type} {t:Sem α} {Q Q':α->Shared->Prop} {M:Model} {A:Around} {E:Value->Shared->Prop} {s:Shared} (h:wpAny M A t Q E s) (hQ:∀ a s,Q a s->Q' a s):wpAny M A t Q' E s:=wpAny_mono h hQ fun _ _ x=>x
end L2
namespace L2
open PySem PySem.Spec PyProof.Rows
section
variable {X:Cx}
def tVar (i:Nat):TE:=fun σ H Q=>∃ v,σ[i]? = some (some v)/\Q v H
def tC (v:V):TE:=fun _ H Q=>Q v H
theorem pe_var {i:Nat} {x:Str} {pos:Pos} (hN:X.N[i]? = some x) (hv:Vis X.env.scope x) (hd:(x == ("__debug__" : Str))=false:=by decide) (hcd:(x == ("__classdict__" : Str))=false:=by decide):PE X (.Name x pos) (tVar i):=by
 intro pins s σ H Q I h
 obtain ⟨v,e,h⟩:=h
 obtain ⟨m,hn,hl⟩:=I.loc
 obtain ⟨u,r,l⟩:=hl i x v hN e hv
 have fin:EP X pins σ Q u s:=⟨v,H,I,r,h⟩
 rcases l with ⟨hk,hm⟩ | ⟨hk,c,hc,hcell⟩
 ·exact wpAny_Name (wpAny_loadName_local I.ok.kind hk hn hm fin) hd
 ·rcases hk with hk | hk
  ·exact wpAny_Name (wpAny_loadName_cell I.ok.kind hk hc hcell fin) hd
  ·exact wpAny_Name (wpAny_loadName_free I.ok.kind hk hc hcell fin hcd) hd
theorem pe_int {i j pos}:PE X (.Constant (.int i) j pos) (tC (.int i)):=fun _ _ _ H _ I h=>wpAny_Constant_int ⟨.int i,H,I.tok _,⟨_,rfl⟩,h⟩
theorem pe_bl {b j pos}:PE X (.Constant (.bool b) j pos) (tC (.bl b)):=fun _ _ _ H _ I h=>Constant_bool ⟨.bl b,H,I,rfl,h⟩
theorem pe_non {j pos}:PE X (.Constant .none j pos) (tC .non):=fun _ _ _ H _ I h=>Constant_none ⟨.non,H,I,rfl,h⟩
def Gl (X:Cx) (x:Str):Prop:=X.env.kindOf x=some .globalImplicit
theorem ld_glob {E:Value->Shared->Prop} {pins:List (Addr×Obj)} {s:Shared} {σ:St} {H:Hp} {x:Str} {u:Value} {pos:Pos} {Q:Value->Shared->Prop} (I:Inv X pins σ H s) (hg:Gl X x) (hm:X.mg x=some u) (h:Q u s)
  (hd:(x == ("__debug__" : Str))=false:=by decide):wpAny (model X.prog X.w) X.A (eval (.Name x pos) X.env) Q E s :=
 Calls.Name_function_global I.ok.kind hg (Calls.loadGlobal_global (by rw [I.ok.glob]; exact I.mod.glob.keeps I.bk) hm h) hd
theorem ld_blt {E:Value->Shared->Prop} {pins:List (Addr×Obj)} {s:Shared} {σ:St} {H:Hp} {x:Str} {u:Value} {pos:Pos} {Q:Value->Shared->Prop} (I:Inv X pins σ H s) (hg:Gl X x) (hm:X.mg x=none) (hv:bootBuiltins x=some u) (h:Q u s)
  (hn:x≠"__name__":=by decide) (hd:(x == ("__debug__" : Str))=false:=by decide):wpAny (model X.prog X.w) X.A (eval (.Name x pos) X.env) Q E s:=by
 obtain ⟨mb,h1,h2⟩:=I.mod.blt
 exact Calls.Name_function_global I.ok.kind hg (Calls.loadGlobal_builtin (by rw [I.ok.glob]; exact I.mod.glob.keeps I.bk) hm (by rw [I.ok.blt]; exact h1.keeps I.bk) ((h2 x hn).trans hv) h) hd
theorem pe_glob {x:Str} {v:V} {u:Value} {pos:Pos} (hg:Gl X x) (hm:X.mg x=some u) (r:RelV v u) (hd:(x == ("__debug__" : Str))=false:=by decide):PE X (.Name x pos) (tC v) :=
 fun _ _ _ H _ I h=>ld_glob I hg hm ⟨v,H,I,r,h⟩ hd
variable {a b:Expr} {ta tb:TE} {pos:Pos}
def tB (t:TE):TT:=fun σ H Q=>t σ H fun x H1=>∃ c,x=.bl c/\Q c H1
theorem pt_val {e:Expr} {t:TE} (h:PE X e t) (he:∀ whole,isTrue e X.env whole=(do let v ← whole; standAt e.pos; holding [v] (truthy v)):=by intro _; rfl):PT X e (tB t):=by
 intro pins s σ H Q I hw
 refine isTrue_plain (thn (h pins s σ H _ I hw) fun v s1 ⟨x,H1,I1,r1,q1⟩=>?_) (he _)
 obtain ⟨d,rfl,q⟩:=q1
 cases r1
 exact wpAny_truthy_bool ⟨H1,I1,q⟩
variable {tA tB':TT} {rest:List Expr}
def tAnd (t u:TT):TT:=fun σ H Q=>t σ H fun c H1=>if c=true then u σ H1 Q else Q false H1
def tOr (t u:TT):TT:=fun σ H Q=>t σ H fun c H1=>if c=true then Q true H1 else u σ H1 Q
def tNot (t:TT):TT:=fun σ H Q=>t σ H fun c H1=>Q (!c) H1
theorem pw_and1 (ha:PT X a tA):PW X (.BoolOp .And [a] pos) tA:=by
 intro wh pins s σ H Q I h
 refine isTrue_and (thn (ha pins s σ H Q I h) fun c s1 e=>?_)
 cases c with
 | true=>exact isTrue_and_nil e
 | false=>exact e
theorem pw_or1 (ha:PT X a tA):PW X (.BoolOp .Or [a] pos) tA:=by
 intro wh pins s σ H Q I h
 refine isTrue_or (thn (ha pins s σ H Q I h) fun c s1 e=>?_)
 cases c with
 | false=>exact isTrue_or_nil e
 | true=>exact e
theorem pw_and (ha:PT X a tA) (hb:PW X (.BoolOp .And (b :: rest) pos) tB'):PW X (.BoolOp .And (a :: b :: rest) pos) (tAnd tA tB'):=by
 intro wh pins s σ H Q I h
 refine isTrue_and (thn (ha pins s σ H _ I h) fun c s1 ⟨H1,I1,q1⟩=>?_)
 cases c with
 | true=>exact hb wh pins s1 σ H1 Q I1 q1
 | false=>exact ⟨H1,I1,q1⟩
theorem pw_or (ha:PT X a tA) (hb:PW X (.BoolOp .Or (b :: rest) pos) tB'):PW X (.BoolOp .Or (a :: b :: rest) pos) (tOr tA tB'):=by
 intro wh pins s σ H Q I h
 refine isTrue_or (thn (ha pins s σ H _ I h) fun c s1 ⟨H1,I1,q1⟩=>?_)
 cases c with
 | true=>exact ⟨H1,I1,q1⟩
 | false=>exact hb wh pins s1 σ H1 Q I1 q1
theorem pt_not (ha:PT X a tA):PT X (.UnaryOp .Not a pos) (tNot tA):=by
 intro pins s σ H Q I h
 exact isTrue_not (ha pins s σ H (fun c H1=>Q (!c) H1) I h)
def tAndV (ta tb:TE):TE:=fun σ H Q=>ta σ H fun x H1=>∃ c,x=.bl c/\if c=true then tb σ H1 Q else Q (.bl false) H1
def tNotV (ta:TE):TE:=fun σ H Q=>ta σ H fun x H1=>∃ c,x=.bl c/\Q (.bl (!c)) H1
theorem pe_one {op} {t:TE} (h:PE X a t):PE X (.BoolOp op [a] pos) t:=fun pins s σ H Q I hw=>BoolOp_one (h pins s σ H Q I hw)
theorem pe_and (ha:PE X a ta) (hb:PE X (.BoolOp .And (b :: rest) pos) tb):PE X (.BoolOp .And (a :: b :: rest) pos) (tAndV ta tb):=by
 intro pins s σ H Q I h
 refine BoolOp_and (thn (ha pins s σ H _ I h) fun v s1 ⟨x,H1,I1,r1,q1⟩=>?_)
 obtain ⟨c,rfl,q1⟩:=q1
 cases r1
 refine wpAny_truthy_bool ?_
 cases c with
 | true=>exact hb pins s1 σ H1 Q I1 q1
 | false=>exact ⟨.bl false,H1,I1,rfl,q1⟩
theorem pe_not (ha:PE X a ta):PE X (.UnaryOp .Not a pos) (tNotV ta):=by
 intro pins s σ H Q I h
 refine UnaryOp_ (thn (ha pins s σ H _ I h) fun v s1 ⟨x,H1,I1,r1,q1⟩=>?_)
 obtain ⟨c,rfl,q1⟩:=q1
 cases r1
 exact not_of (wpAny_truthy_bool ⟨.bl (!c),H1,I1,rfl,q1⟩)
end
end L2
namespace L2
open PySem PySem.Spec PyProof.Rows
def SqL (K:PySem.W.Frag) (H:Hp) (a:Addr) (xs:List V):Prop :=
 Rd H a (.lst xs) \/
  ∃ (o:Obj) (its:Array Value) (n:Nat),K.lookup a=some o/\o.cls=.type "list"/\o.dict=none/\o.data=.seq its n/\its.size<=sizeLine/\Vals xs its.toList
def SqT (K:PySem.W.Frag) (H:Hp) (a:Addr) (xs:List V):Prop :=
 Rd H a (.tup xs) \/
  ∃ (o:Obj) (its:Array Value) (n:Nat),K.lookup a=some o/\o.cls=.type "tuple"/\o.data=.seq its n/\its.size<=sizeLine/\Vals xs its.toList
def absV:Value->Option V
 | .none=>some .non
 | .bool b=>some (.bl b)
 | .int i _=>some (.int i)
 | .str x _=>some (.str x)
 | .bytes b _=>some (.byt b)
 | .float b _=>some (.flt b)
 | .ref a=>some (.ref a)
 | .type n=>some (.ty n)
 | _=>none
theorem RelV.abs {x:V} {u:Value} (r:RelV x u):absV u=some x:=by
 cases x with
 | non=>cases r; rfl
 | bl _=>cases r; rfl
 | int _=>obtain ⟨t,rfl⟩:=r; rfl
 | str _=>obtain ⟨t,rfl⟩:=r; rfl
 | byt _=>obtain ⟨t,rfl⟩:=r; rfl
 | flt _=>obtain ⟨t,rfl⟩:=r; rfl
 | ref _=>cases r; rfl
 | ty _=>cases r; rfl
theorem RelV.inj {x y:V} {u:Value} (r:RelV x u) (q:RelV y u):x=y:=Option.some.inj (r.abs.symm.trans q.abs)
theorem Vals.inj:∀ {xs ys:List V} {us:List Value},Vals xs us->Vals ys us->xs=ys
 | _,_,_,.nil,.nil=>rfl
 | _,_,_,.cons r t,.cons r' t'=>by rw [r.inj r',Vals.inj t t']
section
variable {X:Cx} {pins:List (Addr×Obj)} {σ:St} {H:Hp} {s:Shared} {a:Addr} {xs ys:List V}
theorem SqL.of {K:PySem.W.Frag} (h:H a=some (.lst xs)):SqL K H a xs:=.inl (.inl h)
theorem SqT.of {K:PySem.W.Frag} (h:H a=some (.tup xs)):SqT K H a xs:=.inl (.inl h)
theorem Inv.list (I:Inv X pins σ H s) (h:SqL X.K H a xs):∃ its:List Value,Vals xs its/\PlainL s.heap a its.toArray/\xs.length<=sizeLine:=by
 rcases h with h | ⟨o,its,n,hk,hc,hd,hs,hz,r⟩
 ·obtain ⟨z,its,n,r,e⟩:=h.ok I.hok
  exact ⟨its,r,⟨_,n,e,rfl,rfl,rfl⟩,z⟩
 ·refine ⟨its.toList,r,⟨o,n,I.kIn a o hk,hc,hd,by simpa using hs⟩,?_⟩
  have e:=r.length
  simp only [Array.length_toList] at e
  omega
theorem Inv.tuple (I:Inv X pins σ H s) (h:SqT X.K H a xs):∃ its:List Value,Vals xs its/\IsTup s.heap a its.toArray/\xs.length<=sizeLine:=by
 rcases h with h | ⟨o,its,n,hk,hc,hs,hz,r⟩
 ·obtain ⟨z,its,r,p⟩:=h.ok I.hok
  exact ⟨its,r,p,z⟩
 ·refine ⟨its.toList,r,⟨o,I.kIn a o hk,hc,n,by simpa using hs⟩,?_⟩
  have e:=r.length
  simp only [Array.length_toList] at e
  omega
theorem Inv.list_inj (I:Inv X pins σ H s) (h:SqL X.K H a xs) (h':SqL X.K H a ys):xs=ys:=by
 obtain ⟨its,r,⟨o,n,e,_,_,d⟩,_⟩:=I.list h
 obtain ⟨its',r',⟨o',n',e',_,_,d'⟩,_⟩:=I.list h'
 rw [e] at e'; cases e'
 rw [d] at d'
 injection d' with d1 _
 have:its=its':=by simpa using congrArg Array.toList d1
 subst this
 exact r.inj r'
theorem Inv.tuple_inj (I:Inv X pins σ H s) (h:SqT X.K H a xs) (h':SqT X.K H a ys):xs=ys:=by
 obtain ⟨its,r,⟨o,e,_,n,d⟩,_⟩:=I.tuple h
 obtain ⟨its',r',⟨o',e',_,n',d'⟩,_⟩:=I.tuple h'
 rw [e] at e'; cases e'
 rw [d] at d'
 injection d' with d1 _
 have:its=its':=by simpa using congrArg Array.toList d1
 subst this
 exact r.inj r'
end
abbrev Cx.wish (X:Cx) (E:Value->Shared->Prop):Cx:={ X with xe:=E }
abbrev Cx.nox (X:Cx):Cx:=X.wish fun _ _=>False
theorem Cx.Ok.wish {X:Cx} (ok:X.Ok) (E:Value->Shared->Prop):(X.wish E).Ok :=
 ⟨ok.mod,ok.kind,ok.glob,ok.blt,ok.above,ok.inj,ok.has,ok.cab,ok.hd,ok.frames,ok.stk,ok.exf,ok.bs,ok.bsz,ok.noex,ok.exfs,ok.funs,ok.frf⟩
theorem Cx.Ok.unwish {X:Cx} {E:Value->Shared->Prop} (ok:(X.wish E).Ok):X.Ok :=
 ⟨ok.mod,ok.kind,ok.glob,ok.blt,ok.above,ok.inj,ok.has,ok.cab,ok.hd,ok.frames,ok.stk,ok.exf,ok.bs,ok.bsz,ok.noex,ok.exfs,ok.funs,ok.frf⟩
section
variable {X:Cx} {pins:List (Addr×Obj)} {σ:St} {H:Hp} {s:Shared} {E:Value->Shared->Prop}
theorem Inv.wish (I:Inv X pins σ H s) (E:Value->Shared->Prop):Inv (X.wish E) pins σ H s:=⟨I.ok.wish E,I.os,I.bare,I.base,I.loc,I.cell,I.free,I.freeC,I.pin,I.hok,I.len⟩
theorem Inv.unwish (I:Inv (X.wish E) pins σ H s):Inv X pins σ H s:=⟨I.ok.unwish,I.os,I.bare,I.base,I.loc,I.cell,I.free,I.freeC,I.pin,I.hok,I.len⟩
theorem SP.unwish {D:Ends} {f:Flow} {s':Shared} (h:SP (X.wish E) pins D f s'):SP X pins D f s':=by
 cases f with
 | next=>obtain ⟨σ',H',I,q⟩:=h; exact ⟨σ',H',I.unwish,q⟩
 | brk=>obtain ⟨σ',H',I,q⟩:=h; exact ⟨σ',H',I.unwish,q⟩
 | cont=>obtain ⟨σ',H',I,q⟩:=h; exact ⟨σ',H',I.unwish,q⟩
 | ret u=>obtain ⟨v,σ',H',I,r,q⟩:=h; exact ⟨v,σ',H',I.unwish,r,q⟩
theorem PSs.nox {st:List Stmt} {t:TS} (h:PSs X.nox st t):PSs X st t:=fun pins s σ H D I hw =>
 wpAny_mono (h pins s σ H D (I.wish _) hw) (fun _ _ q=>q.unwish) fun _ _ z=>False.elim z
end
section
variable {X:Cx} {st:Stmt} {rest:List Stmt} {t u:TS} {e:Expr} {te:TE} {pos:Pos}
def tNext:TS:=fun D σ H=>D.nx σ H
def tSeq (t u:TS):TS:=fun D σ H=>t { D with nx:=u D } σ H
theorem pss_nil:PSs X [] tNext:=fun _ _ σ H _ I h=>wpAny_execs_nil ⟨σ,H,I,h⟩
theorem pss_cons (h1:PS X st t) (h2:PSs X rest u):PSs X (st :: rest) (tSeq t u):=by
 intro pins s σ H D I h
 refine wpAny_execs_cons (thn (h1 pins s σ H { D with nx:=u D } I h) fun f s1 q=>?_)
 cases f with
 | next =>
  obtain ⟨σ',H',I',q⟩:=q
  exact h2 pins s1 σ' H' D I' q
 | ret v=>exact q
 | brk=>exact q
 | cont=>exact q
theorem pss_one (h1:PS X st t):PSs X [st] t:=by
 intro pins s σ H D I h
 refine wpAny_execs_cons (thn (h1 pins s σ H D I h) fun f s1 q=>?_)
 cases f with
 | next=>exact wpAny_execs_nil q
 | ret v=>exact q
 | brk=>exact q
 | cont=>exact q
theorem Inv.quiet {pins:List (Addr×Obj)} {σ:St} {H:Hp} {s:Shared} (I:Inv X pins σ H s):interactive X.env=false:=by simp [interactive,I.ok.kind]
def tDrop (te:TE):TS:=fun D σ H=>te σ H fun _ H1=>D.nx σ H1
theorem ps_expr (he:PE X e te) (hs:swapsWith e none pos.line X.env=pure false:=by rfl):PS X (.Expr e pos) (tDrop te):=by
 intro pins s σ H D I h
 exact wpAny_Expr_any (thn (he pins s σ H _ I h) fun v s1 ⟨x,H1,I1,r1,q1⟩=>⟨σ,H1,I1,q1⟩) I.quiet hs
def tRet (te:TE):TS:=fun D σ H=>te σ H D.rt
theorem ps_ret (he:PE X e te):PS X (.Return (some e) pos) (tRet te):=by
 intro pins s σ H D I h
 exact wpAny_Return_some (thn (he pins s σ H _ I h) fun v s1 ⟨x,H1,I1,r1,q1⟩=>⟨x,σ,H1,I1,r1,q1⟩)
def tIfS (c:TT) (t u:TS):TS:=fun D σ H=>c σ H fun b H1=>if b=true then t D σ H1 else u D σ H1
theorem ps_if {c:Expr} {a b:List Stmt} {tc:TT} (hc:PT X c tc) (ha:PSs X a t) (hb:PSs X b u):PS X (.If c a b pos) (tIfS tc t u):=by
 intro pins s σ H D I h
 refine wpAny_If (thn (hc pins s σ H _ I h) fun d s1 ⟨H1,I1,q1⟩=>?_)
 cases d with
 | true=>exact ha pins s1 σ H1 D I1 q1
 | false=>exact hb pins s1 σ H1 D I1 q1
end
abbrev TG:=V->St->Hp->(St->Hp->Prop)->Prop
abbrev TGs:=List V->St->Hp->(St->Hp->Prop)->Prop
def PG (X:Cx) (target:Expr) (t:TG):Prop :=
 ∀ (pins:List (Addr×Obj)) (s:Shared) (σ:St) (H:Hp) (v:V) (u:Value) (Q:St->Hp->Prop),Inv X pins σ H s->RelV v u->t v σ H Q ->
  wpAny (model X.prog X.w) X.A (assign target X.env u) (fun _ s'=>∃ σ' H',Inv X pins σ' H' s'/\Q σ' H') X.xe s
def PGs (X:Cx) (ts:List Expr) (t:TGs):Prop :=
 ∀ (pins:List (Addr×Obj)) (s:Shared) (σ:St) (H:Hp) (vs:List V) (us:List Value) (Q:St->Hp->Prop),Inv X pins σ H s->Vals vs us->t vs σ H Q ->
  wpAny (model X.prog X.w) X.A (assignInOrder ((assignEach ts X.env).map (·.2)) us) (fun _ s'=>∃ σ' H',Inv X pins σ' H' s'/\Q σ' H') X.xe s
section
variable {X:Cx} {pos:Pos}
def gName (i:Nat):TG:=fun v σ H Q=>Q (σ.set i (some v)) H
theorem pg_name {i:Nat} {x:Str} (hN:X.N.Nodup) (hi:X.N[i]? = some x) (hx:Loc X.env.scope x) (hf:X.fn x=true\/X.env.scope.names.lookup x=some .local:=by first | exact .inl rfl | exact .inr rfl | assumption):PG X (.Name x pos) (gName i):=by
 intro pins s σ H v u Q I r h
 exact wpAny_assign_Name (store_ok I hN hi hx r (fun s' I'=>⟨_,H,I',h⟩) hf)
def gNil:TGs:=fun vs σ H Q=>vs=[]/\Q σ H
def gCons (t:TG) (u:TGs):TGs:=fun vs σ H Q=>∃ v r,vs=v :: r/\t v σ H fun σ' H'=>u r σ' H' Q
theorem pgs_nil:PGs X [] gNil:=by
 intro pins s σ H vs us Q I r h
 obtain ⟨e,h⟩:=h
 subst e
 cases r
 exact assignInOrder_nil ⟨σ,H,I,h⟩
theorem pgs_cons {e:Expr} {es:List Expr} {t:TG} {u:TGs} (h1:PG X e t) (h2:PGs X es u)
  (hs:(assignEach (e :: es) X.env).map (·.2)=assign e X.env :: (assignEach es X.env).map (·.2):=by rfl):PGs X (e :: es) (gCons t u):=by
 intro pins s σ H vs us Q I r h
 obtain ⟨v,vr,e1,h⟩:=h
 subst e1
 cases r with
 | cons r rr =>
  rw [hs]
  refine assignInOrder_cons (thn (h1 pins s σ H _ _ _ I r h) fun _ s1 ⟨σ1,H1,I1,q1⟩=>?_)
  exact h2 pins s1 σ1 H1 _ _ Q I1 rr q1
def gTup (K:PySem.W.Frag) (n:Nat) (t:TGs):TG:=fun v σ H Q=>∃ a xs,v=.ref a/\SqT K H a xs/\xs.length=n/\t xs σ H Q
theorem pg_tup {es:List Expr} {k:Nat} {t:TGs} {n:Nat} (hc:X.calm=true) (h:PGs X es t)
  (hn:(assignEach es X.env).length=n:=by rfl) (hst:(assignEach es X.env).findIdx? (·.1)=none:=by rfl):PG X (.Tuple es k pos) (gTup X.K n t):=by
 intro pins s σ H v u Q I r hw
 obtain ⟨a,xs,e1,hq,hl,hw⟩:=hw
 subst e1
 cases r
 obtain ⟨its,rv,ht,hz⟩:=I.tuple hq
 refine assign_Tuple_tuple (I.ok.hd hc) ht (by simp [hn,← hl,rv.length]) hst fun h' hx=>?_
 have I1:Inv X pins σ H { s with heap:=h' }:=I.kept (t':=s.toks) fun b o e=>hx b o (Nat.ne_of_lt (Heap.lt_size e)) e
 exact h pins _ σ H xs _ Q I1 (by simpa using rv) hw
def tAsg (te:TE) (g:TG):TS:=fun D σ H=>te σ H fun x H1=>g x σ H1 D.nx
theorem ps_set {i:Nat} {x:Str} {e:Expr} {te:TE} {pos':Pos} (hN:X.N.Nodup) (hi:X.N[i]? = some x) (hx:Loc X.env.scope x) (he:PE X e te) (hs:swapsWith e (some (.Name x pos')) pos.line X.env=pure false:=by rfl) (hf:X.fn x=true\/X.env.scope.names.lookup x=some .local:=by first | exact .inl rfl | exact .inr rfl | assumption) :
  PS X (.Assign [.Name x pos'] e pos) (tAsg te (gName i)):=by
 intro pins s σ H D I h
 refine wpAny_Assign_Name (thn (he pins s σ H _ I h) fun v s1 ⟨y,H1,I1,r1,q1⟩=>?_) hs
 exact store_ok I1 hN hi hx r1 (fun s2 I2=>⟨_,H1,I2,q1⟩) hf
end
section
variable {X:Cx} {pos:Pos}
def tWhile (c:TT) (tb:TS):TS:=fun D σ H=>∃ W:Nat->St->Hp->Prop,(∃ m,W m σ H)/\∀ m σ H,W m σ H ->
 c σ H fun b H1=>if b=true then ∃ N:St->Hp->Prop,(∀ σ' H',N σ' H'->∃ m',m' < m/\W m' σ' H')/\tb { D with nx:=N,ct:=N,bk:=D.nx } σ H1 else D.nx σ H1
theorem ps_while {c:Expr} {body:List Stmt} {tc:TT} {tb:TS} (hp:PassesOwn (model X.prog X.w) X.A X.env X.xe) (hc:PT X c tc) (hb:PSs X body tb):PS X (.While c body [] pos) (tWhile tc tb):=by
 intro pins s σ H D I h
 obtain ⟨W,⟨m0,w0⟩,turn⟩:=h
 refine wpAny_While (codeAny_whileLoop (fun n s'=>∃ σ' H',Inv X pins σ' H' s'/\W n σ' H') ?_ m0 ⟨σ,H,I,w0⟩)
 rintro n s1 ⟨σ1,H1,I1,w1⟩
 refine wpAny_passesOwn hp (thn (hc pins s1 σ1 H1 _ I1 (turn n σ1 H1 w1)) fun b s2 ⟨H2,I2,q2⟩=>?_)
 cases b with
 | true =>
  obtain ⟨N,hN,q2⟩:=q2
  rw [if_pos rfl]
  refine wpAny_passesOwn hp (thn (hb pins s2 σ1 H2 _ I2 q2) fun f s3 q3=>?_)
  cases f with
  | next =>
   obtain ⟨σ3,H3,I3,n3⟩:=q3
   obtain ⟨m',hm,w3⟩:=hN σ3 H3 n3
   exact ⟨m',hm,σ3,H3,I3,w3⟩
  | cont =>
   obtain ⟨σ3,H3,I3,n3⟩:=q3
   obtain ⟨m',hm,w3⟩:=hN σ3 H3 n3
   exact ⟨m',hm,σ3,H3,I3,w3⟩
  | brk=>exact q3
  | ret v=>exact q3
 | false =>
  rw [if_neg Bool.false_ne_true]
  exact wpAny_execs_nil ⟨σ1,H2,I2,q2⟩
end
structure It where
 go:Nat->Hp->Prop
 yld:Nat->Hp->V->Hp->Prop
 stop:Nat->Hp->Prop
def FpOk (X:Cx) (pins:List (Addr×Obj)) (H:Hp) (b:Addr):Prop :=
 H b=none/\b≠X.env.locals/\b ∉ X.fs/\(b∈X.ex\/X.s_0.heap.objs.size<=b)/\(∀ x c,X.env.cells.lookup x=some c->c≠b)/\∀ p∈X.pn ++ pins,p.1≠b
theorem Inv.fpOk {X:Cx} {pins:List (Addr×Obj)} {σ:St} {H H':Hp} {s:Shared} {b:Addr} (I:Inv X pins σ H s) (hb:s.heap.objs.size<=b) (hn:H' b=none):FpOk X pins H' b:=by
 refine ⟨hn,Nat.ne_of_gt (Nat.lt_of_lt_of_le I.lt hb),I.nofs hb,.inr (Nat.le_trans I.sz hb),fun x c e z=>?_,fun p hp z=>?_⟩
 ·obtain ⟨v,q⟩:=I.cell x c e
  exact absurd (Nat.lt_of_lt_of_le q.lt (by rw [z]; exact hb)) (Nat.lt_irrefl _)
 ·exact absurd (Nat.lt_of_lt_of_le (Heap.lt_size (I.pin p hp).1) (by rw [z]; exact hb)) (Nat.lt_irrefl _)
structure Turn (P:Program) (w:World) (K:PySem.W.Frag) (tg:Expr) (J:It) (fp:List Addr) (it:Addr) (tn:Nat->Heap->Prop):Prop where
 mem:it∈fp
 obj:∀ i h,tn i h->∀ b∈fp,∃ o,h.get? b=some o/\∀ v,o.data≠.cell v
 keep:∀ i h h',tn i h->(∀ b∈fp,∀ o,h.get? b=some o->h'.get? b=some o)->tn i h'
 item:∀ (X:Cx),X.prog=P->X.w=w->X.K=K->X.calm=true->∀ (i:Nat) (pins:List (Addr×Obj)) (s:Shared) (σ:St) (H:Hp) (E:Value->Shared->Prop),Inv X pins σ H s->(∀ b∈fp,FpOk X pins H b)->tn i s.heap->J.go i H ->
  wpAny (model P w) X.A (pyNext (.ref it)) (fun r s1=>∃ u,r=some u /\
   wpAny (model P w) X.A (letOwnedTupleGo tg (.ref it) u) (fun _ s2=>∃ x H',Inv X pins σ H' s2/\RelV x u/\J.yld i H x H'/\tn (i+1) s2.heap/\∀ b∈fp,H' b=none) E s1) E s
 done:∀ (X:Cx),X.prog=P->X.w=w->X.K=K->X.calm=true->∀ (i:Nat) (pins:List (Addr×Obj)) (s:Shared) (σ:St) (H:Hp) (E:Value->Shared->Prop),Inv X pins σ H s->(∀ b∈fp,FpOk X pins H b)->tn i s.heap->J.stop i H ->
  wpAny (model P w) X.A (pyNext (.ref it)) (fun r s1=>r=none/\Inv X pins σ H s1) E s
 self:∀ (A:Around) (i:Nat) (s:Shared) (Q:Value->Shared->Prop) (E:Value->Shared->Prop),tn i s.heap->Q (.ref it) s->wpAny (model P w) A (pyIter (.ref it)) Q E s
abbrev TI:=St->Hp->(It->Hp->Prop)->Prop
def PIE (X:Cx) (pins:List (Addr×Obj)) (σ:St) (tg:Expr) (R:It->Hp->Prop) (itv:Value) (s2:Shared):Prop :=
 ∃ (it:Addr) (fp:List Addr) (tn:Nat->Heap->Prop) (J:It) (H':Hp),itv=.ref it/\Inv X pins σ H' s2/\Turn X.prog X.w X.K tg J fp it tn/\tn 0 s2.heap/\(∀ b∈fp,FpOk X pins H' b)/\R J H'
def PI (X:Cx) (tg iter:Expr) (wi:TI):Prop :=
 ∀ (pins:List (Addr×Obj)) (s:Shared) (σ:St) (H:Hp) (R:It->Hp->Prop),Inv X pins σ H s->wi σ H R ->
  wpAny (model X.prog X.w) X.A (eval iter X.env) (fun v s1=>wpAny (model X.prog X.w) X.A (pyIter v) (PIE X pins σ tg R) X.xe s1) X.xe s
theorem go_of {M:Model} {A:Around} {E:Value->Shared->Prop} {s:Shared} {tg:Expr} {it:Addr} {u:Value} {o:Obj} {n:String} {vs:Array Value} {Q:Unit->Shared->Prop} (ho:s.heap.get? it=some o) (hc:o.cls=.type n) (hd:o.data=.fields vs)
  (hn:["enumerate", "zip", "dict_itemiterator", "dict_reverseitemiterator", "odict_iterator", "itertools.zip_longest", "itertools.pairwise"].contains n=false) (hQ:Q () s):wpAny M A (letOwnedTupleGo tg (.ref it) u) Q E s:=by
 unfold letOwnedTupleGo
 cases tg <;> first
  | exact wpAny_pure hQ
  | (cases u <;> first
    | exact wpAny_pure hQ
    | (refine wpAny_bind (wpAny_load ho ?_)
       rw [hc,hd]
       show wpAny M A (if (["enumerate", "zip", "dict_itemiterator", "dict_reverseitemiterator", "odict_iterator", "itertools.zip_longest", "itertools.pairwise"].contains n && vs[0]? == some (rawInt _))=true then _ else _) Q E s
       rw [if_neg (by intro h; rw [hn,Bool.false_and] at h; cases h)]
       exact wpAny_pure hQ))
def Itl (K:PySem.W.Frag) (a:Addr):It :=
 ⟨fun i H=>∃ xs x,SqL K H a xs/\xs[i]? = some x,fun i H x H'=>H'=H/\∀ xs,SqL K H a xs->xs[i]? = some x,fun i H=>∃ xs,SqL K H a xs/\xs.length<=i⟩
def Itt (K:PySem.W.Frag) (a:Addr):It :=
 ⟨fun i H=>∃ xs x,SqT K H a xs/\xs[i]? = some x,fun i H x H'=>H'=H/\∀ xs,SqT K H a xs->xs[i]? = some x,fun i H=>∃ xs,SqT K H a xs/\xs.length<=i⟩
def Itr (lo:Int) (n:Nat):It:=⟨fun i _=>i < n,fun i H x H'=>H'=H/\x=.int (lo+i),fun i _=>n<=i⟩
theorem turn_list {P:Program} {w:World} {K:PySem.W.Frag} {tg:Expr} (a it:Addr):Turn P w K tg (Itl K a) [it] it (fun i h=>h.IsListIter it a i) where
 mem:=by simp
 obj:=fun i h st b hb=>by
  have e:b=it:=by simpa using hb
  subst e
  obtain ⟨o,e,c,d⟩:=st
  exact ⟨o,e,fun v z=>by rw [d] at z; cases z⟩
 keep:=fun i h h' st k=>st.at fun o e=>k it (by simp) o e
 item:=by
  intro X hP hw hK hc i pins s σ H E I hf st hg
  subst hP hw hK
  obtain ⟨xs,x,hq,hx⟩:=hg
  obtain ⟨its,rv,p,hz⟩:=I.list hq
  obtain ⟨u,hu,ru⟩:=rv.get hx
  obtain ⟨f0,f1,f2,f3,f4,f5⟩:=hf it (by simp)
  refine wpAny_pyNext_list_item st p.isList (x:=u) (by simpa using hu) fun h' st' sb=>?_
  have I1:Inv X pins σ H { s with heap:=h' }:=I.turned (t':=s.toks) (fun b o hb e=>(sb.2 b hb).trans e) f0 f1 f3 f4 f5
  obtain ⟨o,e,c,d⟩:=id st'
  exact ⟨u,rfl,go_of (s:={ s with heap:=h' }) e c d (by decide) ⟨x,H,I1,ru,⟨rfl,fun ys hy=>by rw [I.list_inj hy hq]; exact hx⟩,st',fun b hb=>(hf b hb).1⟩⟩
 done:=by
  intro X hP hw hK hc i pins s σ H E I hf st hg
  subst hP hw hK
  obtain ⟨xs,hq,hx⟩:=hg
  obtain ⟨its,rv,p,hz⟩:=I.list hq
  obtain ⟨f0,f1,f2,f3,f4,f5⟩:=hf it (by simp)
  have hl:=rv.length
  exact wpAny_pyNext_list_end (I.ok.hd hc) st p.isList (by simp; omega) fun h' eb=>⟨rfl,I.turned (t':=s.toks) (fun b o hb e=>eb b o hb e) f0 f1 f3 f4 f5⟩
 self:=fun _ _ _ _ _ st h=>wpAny_pyIter_listiter st h
theorem turn_tuple {P:Program} {w:World} {K:PySem.W.Frag} {tg:Expr} (a it:Addr):Turn P w K tg (Itt K a) [it] it (fun i h=>h.IsTupleIter it a i) where
 mem:=by simp
 obj:=fun i h st b hb=>by
  have e:b=it:=by simpa using hb
  subst e
  obtain ⟨o,e,c,d⟩:=st
  exact ⟨o,e,fun v z=>by rw [d] at z; cases z⟩
 keep:=fun i h h' st k=>st.at fun o e=>k it (by simp) o e
 item:=by
  intro X hP hw hK hc i pins s σ H E I hf st hg
  subst hP hw hK
  obtain ⟨xs,x,hq,hx⟩:=hg
  obtain ⟨its,rv,p,hz⟩:=I.tuple hq
  obtain ⟨u,hu,ru⟩:=rv.get hx
  obtain ⟨f0,f1,f2,f3,f4,f5⟩:=hf it (by simp)
  refine wpAny_pyNext_tuple_item st (show s.heap.IsTuple a its.toArray from p) (x:=u) (by simpa using hu) fun h' st' sb=>?_
  have I1:Inv X pins σ H { s with heap:=h' }:=I.turned (t':=s.toks) (fun b o hb e=>(sb.2 b hb).trans e) f0 f1 f3 f4 f5
  obtain ⟨o,e,c,d⟩:=id st'
  exact ⟨u,rfl,go_of (s:={ s with heap:=h' }) e c d (by decide) ⟨x,H,I1,ru,⟨rfl,fun ys hy=>by rw [I.tuple_inj hy hq]; exact hx⟩,st',fun b hb=>(hf b hb).1⟩⟩
 done:=by
  intro X hP hw hK hc i pins s σ H E I hf st hg
  subst hP hw hK
  obtain ⟨xs,hq,hx⟩:=hg
  obtain ⟨its,rv,p,hz⟩:=I.tuple hq
  obtain ⟨f0,f1,f2,f3,f4,f5⟩:=hf it (by simp)
  have hl:=rv.length
  exact wpAny_pyNext_tuple_end (I.ok.hd hc) st (show s.heap.IsTuple a its.toArray from p) (by simp; omega) fun h' eb=>⟨rfl,I.turned (t':=s.toks) (fun b o hb e=>eb b o hb e) f0 f1 f3 f4 f5⟩
 self:=fun _ _ _ _ _ st h=>wpAny_pyIter_tupleiter st h
theorem turn_range {P:Program} {w:World} {K:PySem.W.Frag} {tg:Expr} (it:Addr) (lo:Int) (n:Nat):Turn P w K tg (Itr lo n) [it] it (fun i h=>IsRangeIter h it (lo+(i:Nat)*1) ((n:Int) - (i:Nat)) 1) where
 mem:=by simp
 obj:=fun i h st b hb=>by
  have e:b=it:=by simpa using hb
  subst e
  exact ⟨_,st,fun v z=>by
   have z':Data.fields _=Data.cell v:=z
   cases z'⟩
 keep:=fun i h h' st k=>k it (by simp) _ st
 item:=by
  intro X hP hw hK hc i pins s σ H E I hf st hg
  subst hP hw hK
  obtain ⟨f0,f1,f2,f3,f4,f5⟩:=hf it (by simp)
  have W:=Walks.range (prog:=X.prog) (w:=X.w) (I.ok.hd hc) it lo 1 n
  refine W.item i s _ _ hg st fun v h' tk hv st' kk=>?_
  obtain ⟨t,rfl⟩:=hv
  have I1:Inv X pins σ H { s with heap:=h',toks:=tk }:=I.turned (fun b o hb e=>kk b o (by simpa using hb) e) f0 f1 f3 f4 f5
  refine ⟨_,rfl,go_of (s:={ s with heap:=h',toks:=tk }) (n:="range_iterator") st' rfl rfl (by decide) ⟨.int (lo+i),H,I1,⟨t,?_⟩,⟨rfl,rfl⟩,st',fun b hb=>(hf b hb).1⟩⟩
  rw [Int.mul_one]
 done:=by
  intro X hP hw hK hc i pins s σ H E I hf st hg
  subst hP hw hK
  obtain ⟨f0,f1,f2,f3,f4,f5⟩:=hf it (by simp)
  exact wpAny_pyNext_range_end (I.ok.hd hc) st (by have:n<=i:=hg; omega) fun h' eb=>⟨rfl,I.turned (t':=s.toks) (fun b o hb e=>eb b o hb e) f0 f1 f3 f4 f5⟩
 self:=fun _ _ _ _ _ st h=>wpAny_pyIter_rangeiter st h
end L2
namespace L2
open PySem PySem.Spec PyProof.Rows
section
variable {X:Cx} {tg:Expr}
def iList (K:PySem.W.Frag) (tl:TE):TI:=fun σ H R=>tl σ H fun x H1=>∃ a,x=.ref a/\(∃ xs,SqL K H1 a xs)/\R (Itl K a) H1
def iTup (K:PySem.W.Frag) (tl:TE):TI:=fun σ H R=>tl σ H fun x H1=>∃ a,x=.ref a/\(∃ xs,SqT K H1 a xs)/\R (Itt K a) H1
theorem pi_list {l:Expr} {tl:TE} (hl:PE X l tl):PI X tg l (iList X.K tl):=by
 intro pins s σ H R I h
 refine thn (hl pins s σ H _ I h) fun v s1 ⟨x,H1,I1,r1,q1⟩=>?_
 obtain ⟨a,e,⟨xs,hq⟩,q⟩:=q1
 subst e
 cases r1
 obtain ⟨its,rv,p,hz⟩:=I1.list hq
 refine wpAny_pyIter_list p.isList ?_
 refine ⟨s1.heap.objs.size,[s1.heap.objs.size],_,_,H1,rfl,I1.kept (t':=s1.toks) fun b o e=>Heap.get?_push_of_some _ e,turn_list a _,⟨_,Heap.get?_push_size _ rfl,rfl,rfl⟩,fun b hb=>?_,q⟩
 have e:b=s1.heap.objs.size:=by simpa using hb
 subst e
 exact I1.fpOk (Nat.le_refl _) (I1.hok.fresh (Nat.le_refl _))
theorem pi_tup {l:Expr} {tl:TE} (hl:PE X l tl):PI X tg l (iTup X.K tl):=by
 intro pins s σ H R I h
 refine thn (hl pins s σ H _ I h) fun v s1 ⟨x,H1,I1,r1,q1⟩=>?_
 obtain ⟨a,e,⟨xs,hq⟩,q⟩:=q1
 subst e
 cases r1
 obtain ⟨its,rv,p,hz⟩:=I1.tuple hq
 refine wpAny_pyIter_tuple (show s1.heap.IsTuple a its.toArray from p) ?_
 refine ⟨s1.heap.objs.size,[s1.heap.objs.size],_,_,H1,rfl,I1.kept (t':=s1.toks) fun b o e=>Heap.get?_push_of_some _ e,turn_tuple a _,⟨_,Heap.get?_push_size _ rfl,rfl,rfl⟩,fun b hb=>?_,q⟩
 have e:b=s1.heap.objs.size:=by simpa using hb
 subst e
 exact I1.fpOk (Nat.le_refl _) (I1.hok.fresh (Nat.le_refl _))
theorem range_it {pins:List (Addr×Obj)} {σ:St} {H:Hp} {s:Shared} {R:It->Hp->Prop} {E:Value->Shared->Prop} {lo hi:Int} {t u v:Tok} {tk:Nat} (I:Inv X pins σ H s) (h1:-(2 ^ 62)<=lo) (h2:lo < 2 ^ 62) (h3:-(2 ^ 62)<=hi) (h4:hi < 2 ^ 62)
  (q:R (Itr lo (hi - lo).toNat) H):wpAny (model X.prog X.w) X.A (pyIter (.ref s.heap.objs.size)) (PIE X pins σ tg R) E { s with heap:=s.heap.push { cls:=.type "range",data:=.fields #[.int lo t,.int hi u,.int 1 v] },toks:=tk }:=by
 refine wpAny_pyIter_range (IsRange.new ..) (small_one h1 h2 h3 h4) ?_
 have I1:Inv X pins σ H { s with heap:=s.heap.push { cls:=.type "range",data:=.fields #[.int lo t,.int hi u,.int 1 v] },toks:=tk }:=I.kept fun b o e=>Heap.get?_push_of_some _ e
 refine ⟨(s.heap.push { cls:=.type "range",data:=.fields #[.int lo t,.int hi u,.int 1 v] }).objs.size,[(s.heap.push { cls:=.type "range",data:=.fields #[.int lo t,.int hi u,.int 1 v] }).objs.size],_,_,H,rfl,
  I1.kept (t':=tk) fun b o e=>Heap.get?_push_of_some _ e,turn_range _ lo (hi - lo).toNat,?_,fun b hb=>?_,q⟩
 ·have e1:lo+((0:Nat):Int)*1=lo:=by simp
  have e2:(((hi - lo).toNat:Nat):Int) - ((0:Nat):Int)=Builtin.Range.rangeSize lo hi 1:=by rw [rangeSize_one]; split <;> omega
  show IsRangeIter _ _ (lo+((0:Nat):Int)*1) ((((hi - lo).toNat:Nat):Int) - ((0:Nat):Int)) 1
  rw [e1,e2]
  exact Heap.get?_push_size _ rfl
 ·have e:b=(s.heap.push { cls:=.type "range",data:=.fields #[.int lo t,.int hi u,.int 1 v] }).objs.size:=by simpa using hb
  subst e
  exact I1.fpOk (Nat.le_refl _) (I1.hok.fresh (Nat.le_refl _))
def iRng1 (ta:TA):TI:=fun σ H R=>ta σ H fun vs H1=>∃ j:Int,vs=[.int j]/\-(2 ^ 62)<=j/\j < 2 ^ 62/\R (Itr 0 j.toNat) H1
def iRng2 (ta:TA):TI:=fun σ H R=>ta σ H fun vs H1=>∃ i j:Int,vs=[.int i,.int j]/\(-(2 ^ 62)<=i/\i < 2 ^ 62/\-(2 ^ 62)<=j/\j < 2 ^ 62)/\R (Itr i (j - i).toNat) H1
theorem pi_range1 {a:Expr} {ta:TA} {p pos:Pos} (hg:Gl X "range") (hm:X.mg "range" = none) (ha:PA X [a] ta) (hs:starEach [a] X.env=[(false,eval a X.env)]:=by rfl):PI X tg (.Call (.Name "range" p) [a] [] pos) (iRng1 ta):=by
 intro pins s σ H R I h
 refine Call_ (ld_blt I hg hm boot_range (PyProof.Rows.callWith_type1 (thn (ha pos pins s σ H _ I h) fun us s1 ⟨vs,H1,I1,r1,q1⟩=>?_) hs rfl))
 obtain ⟨j,e,q1,q2,q⟩:=q1
 subst e
 cases r1 with
 | cons r rr =>
  cases rr
  obtain ⟨t,rfl⟩:=r
  exact call_range_1 (range_it I1 (by omega) (by omega) q1 q2 (by simpa using q))
theorem pi_range2 {a b:Expr} {ta:TA} {p pos:Pos} (hg:Gl X "range") (hm:X.mg "range" = none) (ha:PA X [a,b] ta) (hs:starEach [a,b] X.env=[(false,eval a X.env),(false,eval b X.env)]:=by rfl) (hs2:starEach [b] X.env=[(false,eval b X.env)]:=by rfl) :
  PI X tg (.Call (.Name "range" p) [a,b] [] pos) (iRng2 ta):=by
 intro pins s σ H R I h
 refine Call_ (ld_blt I hg hm boot_range (PyProof.Rows.callWith_type1 (thn (ha pos pins s σ H _ I h) fun us s1 ⟨vs,H1,I1,r1,q1⟩=>?_) (by rw [hs,hs2]) (by rw [hs2]; rfl)))
 obtain ⟨i,j,e,⟨q1,q2,q3,q4⟩,q⟩:=q1
 subst e
 cases r1 with
 | cons r rr =>
  cases rr with
  | cons r' rr =>
   cases rr
   obtain ⟨t,rfl⟩:=r
   obtain ⟨t',rfl⟩:=r'
   exact call_range_2 (range_it I1 q1 q2 q3 q4 q)
def tFor (wi:TI) (g:TG) (tb:TS):TS:=fun D σ H=>wi σ H fun J H1=>∃ W:Nat->Nat->St->Hp->Prop,(∃ m,W 0 m σ H1)/\∀ i m σ H,W i m σ H ->
 (J.stop i H/\D.nx σ H)\/(J.go i H/\∃ N:St->Hp->Prop,(∀ σ' H',N σ' H'->∃ m',m' < m/\W (i+1) m' σ' H')/\∀ x H',J.yld i H x H'->g x σ H' fun σ2 H2=>tb { D with nx:=N,ct:=N,bk:=D.nx } σ2 H2)
def pinsAt (fp:List Addr) (h:Heap):List (Addr×Obj):=fp.filterMap fun b=>(h.get? b).map fun o=>(b,o)
theorem mem_pinsAt {fp:List Addr} {h:Heap} {b:Addr} {o:Obj} (hb:b∈fp) (e:h.get? b=some o):(b,o)∈pinsAt fp h:=List.mem_filterMap.mpr ⟨b,hb,by rw [e]; rfl⟩
theorem of_pinsAt {fp:List Addr} {h:Heap} {p:Addr×Obj} (hp:p∈pinsAt fp h):p.1∈fp/\h.get? p.1=some p.2:=by
 obtain ⟨b,hb,e⟩:=List.mem_filterMap.mp hp
 cases q:h.get? b with
 | none=>rw [q] at e; cases e
 | some o =>
  rw [q] at e
  have e':(b,o)=p:=Option.some.inj e
  subst e'
  exact ⟨hb,q⟩
theorem Inv.pinned {pins:List (Addr×Obj)} {σ:St} {H:Hp} {s:Shared} {fp:List Addr} (I:Inv X pins σ H s) (hf:∀ b∈fp,FpOk X pins H b) (ho:∀ b∈fp,∃ o,s.heap.get? b=some o/\∀ v,o.data≠.cell v):Inv X (pins ++ pinsAt fp s.heap) σ H s :=
 I.pins_of fun p hp=>(List.mem_append.mp hp).elim (fun z=>I.pin p (List.mem_append_right _ z)) fun z=>by
  obtain ⟨hb,e⟩:=of_pinsAt z
  obtain ⟨f0,f1,f2,_⟩:=hf p.1 hb
  obtain ⟨o,e',d⟩:=ho p.1 hb
  rw [e] at e'; cases e'
  exact ⟨e,f0,f1,f2,d⟩
theorem Inv.unpinned {pins pl:List (Addr×Obj)} {σ:St} {H:Hp} {s:Shared} (I:Inv X (pins ++ pl) σ H s):Inv X pins σ H s:=I.pins_of fun p hp=>I.pin p (List.mem_append_right _ (List.mem_append_left _ hp))
theorem ps_for {iter:Expr} {body:List Stmt} {wi:TI} {g:TG} {tb:TS} {pos:Pos} (hp:PassesOwn (model X.prog X.w) X.A X.env X.xe) (hc:X.calm=true) (hi:PI X tg iter wi) (hg:PG X tg g) (hb:PSs X body tb)
  (hs:∀ x,foldedSetIterable iter X.env x=pure x:=by intro _; rfl):PS X (.For tg iter body [] pos) (tFor wi g tb):=by
 intro pins s σ H D I h
 refine wpAny_For (thn (hi pins s σ H _ I h) fun v s1 h1=>thn h1 fun itv s2 h2=>?_) hs
 obtain ⟨it,fp,tn,J,H2,e,I2,T,st2,f2,W,⟨m0,w0⟩,turn⟩:=h2
 subst e
 -- what stays true of the iterator's objects through the loop
 have stat:∀ {H':Hp},(∀ b∈fp,H' b=none)->∀ b∈fp,FpOk X pins H' b:=fun hn b hb=>⟨hn b hb,(f2 b hb).2⟩
 refine codeAny_forLoop_any (fun n s'=>∃ i σ' H',Inv X pins σ' H' s'/\tn i s'.heap/\(∀ b∈fp,H' b=none)/\W i n σ' H') ?_ m0 ⟨0,σ,H2,I2,st2,fun b hb=>(f2 b hb).1,w0⟩
 rintro n s3 ⟨i,σ3,H3,I3,st3,fr3,w3⟩
 rcases turn i n σ3 H3 w3 with ⟨stop,qn⟩ | ⟨go,N,hN,step⟩
 ·refine wpAny_passesOwn hp (thn (T.done X rfl rfl rfl hc i pins s3 σ3 H3 X.xe I3 (stat fr3) st3 stop) fun r s4 ⟨hr,I4⟩=>?_)
  subst hr
  exact wpAny_execs_nil ⟨σ3,H3,I4,qn⟩
 ·refine wpAny_passesOwn hp (thn (T.item X rfl rfl rfl hc i pins s3 σ3 H3 X.xe I3 (stat fr3) st3 go) fun r s4 ⟨u,hr,h4⟩=>?_)
  subst hr
  refine wpAny_passesOwn hp (thn h4 fun _ s5 ⟨x,H5,I5,r5,y5,st5,fr5⟩=>?_)
  have I5':=I5.pinned (stat fr5) (T.obj _ _ st5)
  refine wpAny_passesOwn hp (thn (hg _ s5 σ3 H5 x u _ I5' r5 (step x H5 y5)) fun _ s6 ⟨σ6,H6,I6,q6⟩=>?_)
  refine wpAny_passesOwn hp (thn (hb _ s6 σ6 H6 _ I6 q6) fun f s7 q7=>?_)
  have again:∀ {σ7:St} {H7:Hp},Inv X (pins ++ pinsAt fp s5.heap) σ7 H7 s7->N σ7 H7->∃ m,m < n/\∃ i σ' H',Inv X pins σ' H' s7/\tn i s7.heap/\(∀ b∈fp,H' b=none)/\W i m σ' H':=fun {σ7 H7} I7 n7=>by
   obtain ⟨m',hm,w7⟩:=hN σ7 H7 n7
   refine ⟨m',hm,i+1,σ7,H7,I7.unpinned,T.keep _ _ _ st5 fun b hb o e=>(I7.pin (b,o) (List.mem_append_right _ (List.mem_append_right _ (mem_pinsAt hb e)))).1,fun b hb=>?_,w7⟩
   obtain ⟨o,e,d⟩:=T.obj _ _ st5 b hb
   exact (I7.pin (b,o) (List.mem_append_right _ (List.mem_append_right _ (mem_pinsAt hb e)))).2.1
  cases f with
  | next=>obtain ⟨σ7,H7,I7,n7⟩:=q7; exact again I7 n7
  | cont=>obtain ⟨σ7,H7,I7,n7⟩:=q7; exact again I7 n7
  | brk=>obtain ⟨σ7,H7,I7,q7⟩:=q7; exact ⟨σ7,H7,I7.unpinned,q7⟩
  | ret v=>obtain ⟨x7,σ7,H7,I7,r7,q7⟩:=q7; exact ⟨x7,σ7,H7,I7.unpinned,r7,q7⟩
end
theorem for_list {K:PySem.W.Frag} {a:Addr} {xs:List V} {g:TG} {tb:TS} {D:Ends} {σ:St} {H:Hp} (Pv:Nat->St->Hp->Prop) (h0:Pv 0 σ H) (hl:∀ i σ H,i<=xs.length->Pv i σ H->SqL K H a xs)
  (hs:∀ i x σ H,xs[i]? = some x->Pv i σ H->g x σ H fun σ2 H2=>tb { D with nx:=Pv (i+1),ct:=Pv (i+1),bk:=D.nx } σ2 H2) (hd:∀ σ H,Pv xs.length σ H->D.nx σ H) :
  ∃ W:Nat->Nat->St->Hp->Prop,(∃ m,W 0 m σ H)/\∀ i m σ H,W i m σ H ->
   ((Itl K a).stop i H/\D.nx σ H)\/((Itl K a).go i H/\∃ N:St->Hp->Prop,(∀ σ' H',N σ' H'->∃ m',m' < m/\W (i+1) m' σ' H')/\∀ x H',(Itl K a).yld i H x H'->g x σ H' fun σ2 H2=>tb { D with nx:=N,ct:=N,bk:=D.nx } σ2 H2):=by
 refine ⟨fun i m σ H=>m=xs.length - i/\i<=xs.length/\Pv i σ H,⟨xs.length,by simp,Nat.zero_le _,h0⟩,?_⟩
 rintro i m σ H ⟨rfl,hi,p⟩
 have q:=hl i σ H hi p
 by_cases hlt:i < xs.length
 ·refine .inr ⟨⟨xs,xs[i],q,by simp [hlt]⟩,Pv (i+1),fun σ' H' p'=>⟨xs.length - (i+1),by omega,rfl,hlt,p'⟩,fun x H' y=>?_⟩
  obtain ⟨e,y⟩:=y
  subst e
  exact hs i x σ _ (y xs q) p
 ·have e:i=xs.length:=by omega
  subst e
  exact .inl ⟨⟨xs,q,Nat.le_refl _⟩,hd σ H p⟩
theorem for_tup {K:PySem.W.Frag} {a:Addr} {xs:List V} {g:TG} {tb:TS} {D:Ends} {σ:St} {H:Hp} (Pv:Nat->St->Hp->Prop) (h0:Pv 0 σ H) (hl:∀ i σ H,i<=xs.length->Pv i σ H->SqT K H a xs)
  (hs:∀ i x σ H,xs[i]? = some x->Pv i σ H->g x σ H fun σ2 H2=>tb { D with nx:=Pv (i+1),ct:=Pv (i+1),bk:=D.nx } σ2 H2) (hd:∀ σ H,Pv xs.length σ H->D.nx σ H) :
  ∃ W:Nat->Nat->St->Hp->Prop,(∃ m,W 0 m σ H)/\∀ i m σ H,W i m σ H ->
   ((Itt K a).stop i H/\D.nx σ H)\/((Itt K a).go i H/\∃ N:St->Hp->Prop,(∀ σ' H',N σ' H'->∃ m',m' < m/\W (i+1) m' σ' H')/\∀ x H',(Itt K a).yld i H x H'->g x σ H' fun σ2 H2=>tb { D with nx:=N,ct:=N,bk:=D.nx } σ2 H2):=by
 refine ⟨fun i m σ H=>m=xs.length - i/\i<=xs.length/\Pv i σ H,⟨xs.length,by simp,Nat.zero_le _,h0⟩,?_⟩
 rintro i m σ H ⟨rfl,hi,p⟩
 have q:=hl i σ H hi p
 by_cases hlt:i < xs.length
 ·refine .inr ⟨⟨xs,xs[i],q,by simp [hlt]⟩,Pv (i+1),fun σ' H' p'=>⟨xs.length - (i+1),by omega,rfl,hlt,p'⟩,fun x H' y=>?_⟩
  obtain ⟨e,y⟩:=y
  subst e
  exact hs i x σ _ (y xs q) p
 ·have e:i=xs.length:=by omega
  subst e
  exact .inl ⟨⟨xs,q,Nat.le_refl _⟩,hd σ H p⟩
theorem for_range {lo:Int} {n:Nat} {g:TG} {tb:TS} {D:Ends} {σ:St} {H:Hp} (Pv:Nat->St->Hp->Prop) (h0:Pv 0 σ H)
  (hs:∀ i σ H,i < n->Pv i σ H->g (.int (lo+i)) σ H fun σ2 H2=>tb { D with nx:=Pv (i+1),ct:=Pv (i+1),bk:=D.nx } σ2 H2) (hd:∀ σ H,Pv n σ H->D.nx σ H) :
  ∃ W:Nat->Nat->St->Hp->Prop,(∃ m,W 0 m σ H)/\∀ i m σ H,W i m σ H ->
   ((Itr lo n).stop i H/\D.nx σ H)\/((Itr lo n).go i H/\∃ N:St->Hp->Prop,(∀ σ' H',N σ' H'->∃ m',m' < m/\W (i+1) m' σ' H')/\∀ x H',(Itr lo n).yld i H x H'->g x σ H' fun σ2 H2=>tb { D with nx:=N,ct:=N,bk:=D.nx } σ2 H2):=by
 refine ⟨fun i m σ H=>m=n - i/\i<=n/\Pv i σ H,⟨n,by simp,Nat.zero_le _,h0⟩,?_⟩
 rintro i m σ H ⟨rfl,hi,p⟩
 by_cases hlt:i < n
 ·refine .inr ⟨hlt,Pv (i+1),fun σ' H' p'=>⟨n - (i+1),by omega,rfl,hlt,p'⟩,fun x H' y=>?_⟩
  obtain ⟨e,y⟩:=y
  subst e y
  exact hs i σ _ hlt p
 ·have e:i=n:=by omega
  subst e
  exact .inl ⟨Nat.le_refl _,hd σ H p⟩
end L2
namespace L2
open PySem PySem.Spec PyProof.Rows
abbrev R2:=V->V->Hp->VK->Prop
def OpR (X:Cx) (f:Value->Value->Sem Value) (r:R2):Prop :=
 ∀ (pins:List (Addr×Obj)) (s:Shared) (σ:St) (H:Hp) (x y:V) (v u:Value) (Q:VK),Inv X pins σ H s->RelV x v->RelV y u->r x y H Q ->
  wpAny (model X.prog X.w) X.A (f v u) (EP X pins σ Q) X.xe s
def UnR (X:Cx) (f:Value->Sem Value) (r:V->Hp->VK->Prop):Prop :=
 ∀ (pins:List (Addr×Obj)) (s:Shared) (σ:St) (H:Hp) (x:V) (v:Value) (Q:VK),Inv X pins σ H s->RelV x v->r x H Q ->
  wpAny (model X.prog X.w) X.A (f v) (EP X pins σ Q) X.xe s
def CallR (X:Cx) (f:Value) (r:List V->Hp->VK->Prop):Prop :=
 ∀ (pins:List (Addr×Obj)) (s:Shared) (σ:St) (H:Hp) (xs:List V) (us:List Value) (Q:VK),Inv X pins σ H s->Vals xs us->r xs H Q ->
  wpAny (model X.prog X.w) X.A (call f us) (EP X pins σ Q) X.xe s
def TruR (X:Cx) (r:V->Hp->(Bool->Hp->Prop)->Prop):Prop :=
 ∀ (pins:List (Addr×Obj)) (s:Shared) (σ:St) (H:Hp) (x:V) (v:Value) (Q:Bool->Hp->Prop),Inv X pins σ H s->RelV x v->r x H Q ->
  wpAny (model X.prog X.w) X.A (truthy v) (TP X pins σ Q) X.xe s
def tOp (r:R2) (ta tb:TE):TE:=fun σ H Q=>ta σ H fun x H1=>tb σ H1 fun y H2=>r x y H2 Q
def tUn (r:V->Hp->VK->Prop) (ta:TE):TE:=fun σ H Q=>ta σ H fun x H1=>r x H1 Q
def rI (C:Int->Int->Prop) (g:Int->Int->V):R2:=fun x y H Q=>∃ i j,x=.int i/\y=.int j/\C i j/\Q (g i j) H
def rI0 (g:Int->Int->V):R2:=fun x y H Q=>∃ i j,x=.int i/\y=.int j/\Q (g i j) H
def rU (g:Int->V):V->Hp->VK->Prop:=fun x H Q=>∃ i,x=.int i/\Q (g i) H
section
variable {X:Cx} {a b c:Expr} {ta tb tc:TE} {pos:Pos}
theorem binT (ha:PE X a ta) (hb:PE X b tb) {pins:List (Addr×Obj)} {s:Shared} {σ:St} {H:Hp} {R:V->V->Hp->Prop} (I:Inv X pins σ H s)
  (h:ta σ H fun x H1=>tb σ H1 fun y H2=>R x y H2) {Q:Value->Shared->Prop} {f:Value->Value->Sem Value}
  (hf:∀ v u s2 x y H2,Inv X pins σ H2 s2->RelV x v->RelV y u->R x y H2->wpAny (model X.prog X.w) X.A (f v u) Q X.xe s2) :
  wpAny (model X.prog X.w) X.A (eval a X.env) (fun v s₁=>wpAny (model X.prog X.w) X.A (eval b X.env) (fun u s₂=>wpAny (model X.prog X.w) X.A (f v u) Q X.xe s₂) X.xe s₁) X.xe s:=by
 refine thn (ha pins s σ H _ I h) fun v s1 ⟨x,H1,I1,r1,q1⟩=>?_
 refine thn (hb pins s1 σ H1 _ I1 q1) fun u s2 ⟨y,H2,I2,r2,q2⟩=>?_
 exact hf v u s2 x y H2 I2 r1 r2 q2
theorem pe_op {op:Operator} {r:R2} (ho:OpR X (binaryOp op) r) (ha:PE X a ta) (hb:PE X b tb):PE X (.BinOp a op b pos) (tOp r ta tb):=by
 intro pins s σ H Q I h
 exact wpAny_BinOp (binT ha hb I h fun v u s2 x y H2 I2 rx ry q=>ho pins s2 σ H2 x y v u Q I2 rx ry q)
theorem pe_un {op:UnaryOp} {r:V->Hp->VK->Prop} (ho:UnR X (unaryOp op) r) (ha:PE X a ta):PE X (.UnaryOp op a pos) (tUn r ta):=by
 intro pins s σ H Q I h
 exact UnaryOp_ (thn (ha pins s σ H _ I h) fun v s1 ⟨x,H1,I1,r1,q1⟩=>ho pins s1 σ H1 x v Q I1 r1 q1)
theorem opI {f:Value->Value->Sem Value} {C:Int->Int->Prop} {g:Int->Int->Int}
  (rule:∀ (i j:Int) (t u:Tok) (s:Shared) (Q:Value->Shared->Prop) (E:Value->Shared->Prop),C i j->Q (.int (g i j) s.toks) { s with toks:=s.toks+1 }->wpAny (model X.prog X.w) X.A (f (.int i t) (.int j u)) Q E s) :
  OpR X f (rI C fun i j=>.int (g i j)):=by
 intro pins s σ H x y v u Q I rx ry h
 obtain ⟨i,j,rfl,rfl,hc,q⟩:=h
 obtain ⟨t,rfl⟩:=rx
 obtain ⟨t',rfl⟩:=ry
 exact rule i j t t' s _ _ hc ⟨.int (g i j),H,I.tok _,⟨_,rfl⟩,q⟩
theorem opI0 {f:Value->Value->Sem Value} {g:Int->Int->Int}
  (rule:∀ (i j:Int) (t u:Tok) (s:Shared) (Q:Value->Shared->Prop) (E:Value->Shared->Prop),Q (.int (g i j) s.toks) { s with toks:=s.toks+1 }->wpAny (model X.prog X.w) X.A (f (.int i t) (.int j u)) Q E s) :
  OpR X f (rI0 fun i j=>.int (g i j)):=by
 intro pins s σ H x y v u Q I rx ry h
 obtain ⟨i,j,rfl,rfl,q⟩:=h
 obtain ⟨t,rfl⟩:=rx
 obtain ⟨t',rfl⟩:=ry
 exact rule i j t t' s _ _ ⟨.int (g i j),H,I.tok _,⟨_,rfl⟩,q⟩
theorem opB0 {f:Value->Value->Sem Value} {g:Int->Int->Bool}
  (rule:∀ (i j:Int) (t u:Tok) (s:Shared) (Q:Value->Shared->Prop) (E:Value->Shared->Prop),Q (.bool (g i j)) s->wpAny (model X.prog X.w) X.A (f (.int i t) (.int j u)) Q E s) :
  OpR X f (rI0 fun i j=>.bl (g i j)):=by
 intro pins s σ H x y v u Q I rx ry h
 obtain ⟨i,j,rfl,rfl,q⟩:=h
 obtain ⟨t,rfl⟩:=rx
 obtain ⟨t',rfl⟩:=ry
 exact rule i j t t' s _ _ ⟨.bl (g i j),H,I,rfl,q⟩
theorem op_add:OpR X (binaryOp .Add) (rI0 fun i j=>.int (i+j)):=opI0 fun _ _ _ _ _ _ _ q=>add_int q
theorem op_sub:OpR X (binaryOp .Sub) (rI0 fun i j=>.int (i - j)):=opI0 fun _ _ _ _ _ _ _ q=>sub_int q
theorem op_mod:OpR X (binaryOp .Mod) (rI (fun _ j=>0 < j) fun i j=>.int (i % j)):=opI fun i j _ _ _ _ _ hc q=>by
 have h1:(0:Int) < j:=hc
 exact mod_int' (by omega) (by rw [Int.fmod_eq_emod_of_nonneg i (by omega)]; exact q)
theorem unI {f:Value->Sem Value} {g:Int->Int}
  (rule:∀ (i:Int) (t:Tok) (s:Shared) (Q:Value->Shared->Prop) (E:Value->Shared->Prop),Q (.int (g i) s.toks) { s with toks:=s.toks+1 }->wpAny (model X.prog X.w) X.A (f (.int i t)) Q E s) :
  UnR X f (rU fun i=>.int (g i)):=by
 intro pins s σ H x v Q I rx h
 obtain ⟨i,rfl,q⟩:=h
 obtain ⟨t,rfl⟩:=rx
 exact rule i t s _ _ ⟨.int (g i),H,I.tok _,⟨_,rfl⟩,q⟩
theorem un_neg:UnR X (unaryOp .USub) (rU fun i=>.int (-i)):=unI fun _ _ _ _ _ q=>neg_int q
end
def scal:V->V->Bool
 | .non,.non=>true | .non,.int _=>true | .int _,.non=>true | .non,.bl _=>true | .bl _,.non=>true | .non,.str _=>true | .str _,.non=>true
 | .int _,.int _=>true | .bl _,.bl _=>true | .str _,.str _=>true | .byt _,.byt _=>true
 | .int _,.str _=>true | .str _,.int _=>true | .bl _,.str _=>true | .str _,.bl _=>true
 | _,_=>false
def rEq:R2:=fun x y H Q=>scal x y=true/\Q (.bl (decide (x=y))) H
def rNe:R2:=fun x y H Q=>scal x y=true/\Q (.bl (!decide (x=y))) H
theorem dec_int {i j:Int}:decide (V.int i=V.int j)=(i == j):=by
 rw [Bool.eq_iff_iff]
 simp
theorem dec_bl {i j:Bool}:decide (V.bl i=V.bl j)=(i == j):=by
 rw [Bool.eq_iff_iff]
 simp
theorem dec_str {i j:Str}:decide (V.str i=V.str j)=(i == j):=by
 rw [Bool.eq_iff_iff]
 simp
theorem dec_byt {i j:Array UInt8}:decide (V.byt i=V.byt j)=(i.toList == j.toList):=by
 rw [Bool.eq_iff_iff]
 cases i
 cases j
 simp
section
variable {X:Cx} {a b c:Expr} {ta tb tc:TE} {pos:Pos}
theorem fin_bl {pins:List (Addr×Obj)} {σ:St} {H:Hp} {s:Shared} {Q:VK} {k k':Bool} (I:Inv X pins σ H s) (q:Q (.bl k) H) (e:k=k'):EP X pins σ Q (.bool k') s:=by
 subst e
 exact ⟨.bl k,H,I,rfl,q⟩
theorem op_eq:OpR X (compareOp .Eq) rEq:=by
 intro pins s σ H x y v u Q I rx ry h
 obtain ⟨hs,q⟩:=h
 cases x with
 | non =>
  cases rx
  cases y with
  | non=>cases ry; exact PySem.EqNone.eq_none_none (fin_bl I q (by simp))
  | bl j=>cases ry; exact PySem.EqNone.eq_none_bool (fin_bl I q (by simp))
  | int j=>obtain ⟨t',rfl⟩:=ry; exact PySem.EqNone.eq_none_int (fin_bl I q (by simp))
  | str j=>obtain ⟨t',rfl⟩:=ry; exact PySem.EqNone.eq_none_str (fin_bl I q (by simp))
  | _=>exact absurd (show false=true from hs) Bool.false_ne_true
 | bl i =>
  cases rx
  cases y with
  | non=>cases ry; exact PySem.EqNone.eq_bool_none (fin_bl I q (by simp))
  | bl j=>cases ry; exact eq_bool (fin_bl I q dec_bl)
  | str j=>obtain ⟨t',rfl⟩:=ry; exact PySem.EqMixed.eq_bool_str (fin_bl I q (by simp))
  | _=>exact absurd (show false=true from hs) Bool.false_ne_true
 | int i =>
  obtain ⟨t,rfl⟩:=rx
  cases y with
  | non=>cases ry; exact PySem.EqNone.eq_int_none (fin_bl I q (by simp))
  | int j=>obtain ⟨t',rfl⟩:=ry; exact eq_int (fin_bl I q dec_int)
  | str j=>obtain ⟨t',rfl⟩:=ry; exact PySem.EqMixed.eq_int_str (fin_bl I q (by simp))
  | _=>exact absurd (show false=true from hs) Bool.false_ne_true
 | str i =>
  obtain ⟨t,rfl⟩:=rx
  cases y with
  | non=>cases ry; exact PySem.EqNone.eq_str_none (fin_bl I q (by simp))
  | bl j=>cases ry; exact PySem.EqMixed.eq_str_bool (fin_bl I q (by simp))
  | int j=>obtain ⟨t',rfl⟩:=ry; exact PySem.EqMixed.eq_str_int (fin_bl I q (by simp))
  | str j=>obtain ⟨t',rfl⟩:=ry; exact eq_str (fin_bl I q dec_str)
  | _=>exact absurd (show false=true from hs) Bool.false_ne_true
 | byt i =>
  obtain ⟨t,rfl⟩:=rx
  cases y with
  | byt j=>obtain ⟨t',rfl⟩:=ry; exact PySem.W.eq_bytes (fin_bl I q dec_byt)
  | _=>exact absurd (show false=true from hs) Bool.false_ne_true
 | _=>cases y <;> exact absurd (show false=true from hs) Bool.false_ne_true
theorem op_ne:OpR X (compareOp .NotEq) rNe:=by
 intro pins s σ H x y v u Q I rx ry h
 obtain ⟨hs,q⟩:=h
 cases x with
 | non =>
  cases rx
  cases y with
  | non=>cases ry; exact PySem.EqNone.ne_none_none (fin_bl I q (by simp))
  | bl j=>cases ry; exact PySem.EqNone.ne_none_bool (fin_bl I q (by simp))
  | int j=>obtain ⟨t',rfl⟩:=ry; exact PySem.EqNone.ne_none_int (fin_bl I q (by simp))
  | str j=>obtain ⟨t',rfl⟩:=ry; exact PySem.EqNone.ne_none_str (fin_bl I q (by simp))
  | _=>exact absurd (show false=true from hs) Bool.false_ne_true
 | bl i =>
  cases rx
  cases y with
  | non=>cases ry; exact PySem.EqNone.ne_bool_none (fin_bl I q (by simp))
  | bl j=>cases ry; exact ne_bool (fin_bl I q (congrArg not dec_bl))
  | str j=>obtain ⟨t',rfl⟩:=ry; exact PySem.EqMixed.ne_bool_str (fin_bl I q (by simp))
  | _=>exact absurd (show false=true from hs) Bool.false_ne_true
 | int i =>
  obtain ⟨t,rfl⟩:=rx
  cases y with
  | non=>cases ry; exact PySem.EqNone.ne_int_none (fin_bl I q (by simp))
  | int j=>obtain ⟨t',rfl⟩:=ry; exact ne_int (fin_bl I q (congrArg not dec_int))
  | str j=>obtain ⟨t',rfl⟩:=ry; exact PySem.EqMixed.ne_int_str (fin_bl I q (by simp))
  | _=>exact absurd (show false=true from hs) Bool.false_ne_true
 | str i =>
  obtain ⟨t,rfl⟩:=rx
  cases y with
  | non=>cases ry; exact PySem.EqNone.ne_str_none (fin_bl I q (by simp))
  | bl j=>cases ry; exact PySem.EqMixed.ne_str_bool (fin_bl I q (by simp))
  | int j=>obtain ⟨t',rfl⟩:=ry; exact PySem.EqMixed.ne_str_int (fin_bl I q (by simp))
  | str j=>obtain ⟨t',rfl⟩:=ry; exact ne_str (fin_bl I q (congrArg not dec_str))
  | _=>exact absurd (show false=true from hs) Bool.false_ne_true
 | byt i =>
  obtain ⟨t,rfl⟩:=rx
  cases y with
  | byt j=>obtain ⟨t',rfl⟩:=ry; exact PySem.W.ne_bytes (fin_bl I q (congrArg not dec_byt))
  | _=>exact absurd (show false=true from hs) Bool.false_ne_true
 | _=>cases y <;> exact absurd (show false=true from hs) Bool.false_ne_true
theorem op_lt:OpR X (compareOp .Lt) (rI0 fun i j=>.bl (decide (i < j))):=opB0 fun _ _ _ _ _ _ _ q=>lt_int q
theorem op_le:OpR X (compareOp .LtE) (rI0 fun i j=>.bl (decide (i<=j))):=opB0 fun _ _ _ _ _ _ _ q=>le_int q
theorem op_gt:OpR X (compareOp .Gt) (rI0 fun i j=>.bl (decide (j < i))):=opB0 fun _ _ _ _ _ _ _ q=>gt_int q
theorem op_ge:OpR X (compareOp .GtE) (rI0 fun i j=>.bl (decide (j<=i))):=opB0 fun _ _ _ _ _ _ _ q=>ge_int q
theorem op_notN:OpR X (compareOp .IsNot) (fun x y H Q=>y=.non/\Q (.bl (!decide (x=.non))) H):=by
 intro pins s σ H x y v u Q I rx ry h
 obtain ⟨rfl,q⟩:=h
 cases ry
 refine isnot_none_gen (fin_bl I q ?_)
 cases x <;> first
  | (cases rx; rfl)
  | (obtain ⟨t,rfl⟩:=rx; rfl)
theorem nomark (b:Expr) {op:CmpOp} (h:op≠.In:=by decide) (h2:op≠.NotIn:=by decide):behindInMarks op b=false:=by
 have e1:(op == CmpOp.In)=false:=by cases op <;> first | rfl | exact absurd rfl h
 have e2:(op == CmpOp.NotIn)=false:=by cases op <;> first | rfl | exact absurd rfl h2
 cases b <;> simp [behindInMarks,e1,e2]
theorem pe_cmpR {op:CmpOp} {r:R2} (ho:OpR X (compareOp op) r) (ha:PE X a ta) (hb:PE X b tb) (hm:behindInMarks op b=false):PE X (.Compare a [op] [b] pos) (tOp r ta tb):=by
 intro pins s σ H Q I h
 exact wpAny_Compare1 (binT ha hb I h fun v u s2 x y H2 I2 rx ry q=>ho pins s2 σ H2 x y v u Q I2 rx ry q) hm
def tTest (t:TE):TT:=fun σ H Q=>t σ H fun x H'=>∃ k,x=.bl k/\Q k H'
theorem pt_cmpR {op:CmpOp} {r:R2} (ho:OpR X (compareOp op) r) (ha:PE X a ta) (hb:PE X b tb) (hm:behindInMarks op b=false):PT X (.Compare a [op] [b] pos) (tTest (tOp r ta tb)):=by
 intro pins s σ H Q I h
 refine wpAny_isTrue_Compare1 (thn (ha pins s σ H _ I h) fun v s1 ⟨x,H1,I1,r1,q1⟩=>thn (hb pins s1 σ H1 _ I1 q1) fun u s2 ⟨y,H2,I2,r2,q2⟩ =>
  thn (ho pins s2 σ H2 x y v u _ I2 r1 r2 q2) fun c s3 ⟨z,H3,I3,r3,k,e,q3⟩=>?_) hm
 subst e
 cases r3
 exact wpAny_truthy_bool ⟨H3,I3,q3⟩
def tChain (r r':R2) (ta tb tc:TE):TE:=fun σ H Q=>ta σ H fun x H1=>tb σ H1 fun y H2=>r x y H2 fun z H3=>∃ k,z=.bl k /\
 (if k=true then tc σ H3 fun w' H4=>r' y w' H4 Q else Q (.bl false) H3)
theorem pe_chain {op op':CmpOp} {r r':R2} (ho:OpR X (compareOp op) r) (ho':OpR X (compareOp op') r') (ha:PE X a ta) (hb:PE X b tb) (hc:PE X c tc)
  (hm:lastMarks [op,op'] [b,c]=false:=by with_unfolding_all rfl):PE X (.Compare a [op,op'] [b,c] pos) (tChain r r' ta tb tc):=by
 intro pins s σ H Q I h
 refine Compare_chain (thn (ha pins s σ H _ I h) fun v s1 ⟨x,H1,I1,r1,q1⟩=>chain_link (thn (hb pins s1 σ H1 _ I1 q1) fun u s2 ⟨y,H2,I2,r2,q2⟩ =>
  thn (ho pins s2 σ H2 x y v u _ I2 r1 r2 q2) fun d s3 ⟨z,H3,I3,r3,k,e,q3⟩=>?_)) hm
 subst e
 cases r3
 refine wpAny_truthy_bool ?_
 cases k with
 | false=>exact ite_ff ⟨.bl false,H3,I3,rfl,q3⟩
 | true=>exact ite_tt (chain_last (thn (hc pins s3 σ H3 _ I3 q3) fun w' s4 ⟨z',H4,I4,r4,q4⟩=>ho' pins s4 σ H4 y z' u w' Q I4 r2 r4 q4))
theorem pt_chain {op op':CmpOp} {r r':R2} (ho:OpR X (compareOp op) r) (ho':OpR X (compareOp op') r') (ha:PE X a ta) (hb:PE X b tb) (hc:PE X c tc)
  (hm:lastMarks [op,op'] [b,c]=false:=by with_unfolding_all rfl):PT X (.Compare a [op,op'] [b,c] pos) (tTest (tChain r r' ta tb tc)):=by
 intro pins s σ H Q I h
 refine isTrue_chain (thn (ha pins s σ H _ I h) fun v s1 ⟨x,H1,I1,r1,q1⟩=>test_link (thn (hb pins s1 σ H1 _ I1 q1) fun u s2 ⟨y,H2,I2,r2,q2⟩ =>
  thn (ho pins s2 σ H2 x y v u _ I2 r1 r2 q2) fun d s3 ⟨z,H3,I3,r3,k,e,q3⟩=>?_)) hm
 subst e
 cases r3
 refine wpAny_truthy_bool ?_
 cases k with
 | false =>
  obtain ⟨k',e',q'⟩:=q3
  cases e'
  exact ite_ff ⟨H3,I3,q'⟩
 | true =>
  refine ite_tt (test_last (thn (hc pins s3 σ H3 _ I3 q3) fun w' s4 ⟨z',H4,I4,r4,q4⟩=>thn (ho' pins s4 σ H4 y z' u w' _ I4 r2 r4 q4) fun d' s5 ⟨z2,H5,I5,r5,k2,e2,q5⟩=>?_))
  subst e2
  cases r5
  exact wpAny_truthy_bool ⟨H5,I5,q5⟩
def TruV (K:PySem.W.Frag) (x:V) (H:Hp) (k:Bool):Prop :=
 match x with
 | .non=>k=false
 | .bl b=>k=b
 | .int i=>k=(i != 0)
 | .str y=>y.length<=sizeLine/\k=((y.length:Int) != 0)
 | .byt y=>y.size<=sizeLine/\k=((y.size:Int) != 0)
 | .ref p=>(∃ xs,SqL K H p xs/\k = !xs.isEmpty)\/(∃ xs,SqT K H p xs/\k = !xs.isEmpty)\/∃ kvs,H p=some (.dK kvs)/\k = !kvs.isEmpty
 | _=>False
theorem isEmpty_kv {κ:Type} {kvs:List (κ×V)} {vs:List (κ×Value)} (r:KV kvs vs):(!vs.isEmpty) = !kvs.isEmpty:=by
 cases r <;> rfl
theorem isEmpty_of {xs:List V} {its:List Value} (r:Vals xs its):(!its.toArray.isEmpty) = !xs.isEmpty:=by
 cases r <;> simp
theorem line63:(sizeLine:Nat) < 2 ^ 63:=by rw [sizeLine_eq]; decide
theorem tru_ok:TruR X (fun x H Q=>∃ k,TruV X.K x H k/\Q k H):=by
 intro pins s σ H x v Q I rx h
 obtain ⟨k,e,q⟩:=h
 have hl:=line63
 have hs:sizeLine=16777216:=sizeLine_eq
 cases x with
 | non =>
  cases rx
  have e':k=false:=e
  subst e'
  exact truthy_none ⟨H,I,q⟩
 | bl b =>
  cases rx
  have e':k=b:=e
  subst e'
  exact wpAny_truthy_bool ⟨H,I,q⟩
 | int i =>
  obtain ⟨t,rfl⟩:=rx
  have e':k=(i != 0):=e
  subst e'
  exact PySem.P.truthy_int ⟨H,I,q⟩
 | str y =>
  obtain ⟨t,rfl⟩:=rx
  obtain ⟨hy,e'⟩:y.length<=sizeLine/\k=((y.length:Int) != 0):=e
  subst e'
  exact PySem.P.truthy_str (by omega) ⟨H,I.tok _,q⟩
 | byt y =>
  obtain ⟨t,rfl⟩:=rx
  obtain ⟨hy,e'⟩:y.size<=sizeLine/\k=((y.size:Int) != 0):=e
  subst e'
  exact PySem.W.truthy_bytes (by omega) ⟨H,I.tok _,q⟩
 | ref p =>
  cases rx
  have e':(∃ xs,SqL X.K H p xs/\k = !xs.isEmpty)\/(∃ xs,SqT X.K H p xs/\k = !xs.isEmpty)\/∃ kvs,H p=some (.dK kvs)/\k = !kvs.isEmpty:=e
  rcases e' with ⟨xs,hx,e'⟩ | ⟨xs,hx,e'⟩ | ⟨kvs,hx,e'⟩
  ·subst e'
   obtain ⟨its,r,pl,hz⟩:=I.list hx
   have hlen:=r.length
   exact wpAny_truthy_list pl.isList (by simp only [List.size_toArray]; omega) ⟨H,I.tok _,by rw [isEmpty_of r]; exact q⟩
  ·subst e'
   obtain ⟨its,r,pl,hz⟩:=I.tuple hx
   have hlen:=r.length
   exact truthy_tuple pl (by simp only [List.size_toArray]; omega) ⟨H,I.tok _,by rw [isEmpty_of r]; exact q⟩
  ·subst e'
   obtain ⟨hz,hS,vs,r,m⟩:kvs.length<=sizeLine/\(p == sysModules)=false/\∃ vs,KV kvs vs/\s.heap.DictOf (mixKind X.prog X.w) p vs:=I.hok p _ hx
   have hlen:kvs.length=vs.length:=Paired.length r
   exact wpAny_truthy_dict hS m (by omega) ⟨H,I.tok _,by rw [isEmpty_kv r]; exact q⟩
 | _=>exact (show False from e).elim
theorem pt_truth (ha:PE X a ta) (he:∀ whole,isTrue a X.env whole=(do let v ← whole; standAt a.pos; holding [v] (truthy v))) :
  PT X a (fun σ H Q=>ta σ H fun x H'=>∃ k,TruV X.K x H' k/\Q k H'):=by
 intro pins s σ H Q I h
 exact isTrue_plain (thn (ha pins s σ H _ I h) fun v s1 ⟨x,H1,I1,r1,q1⟩=>tru_ok pins s1 σ H1 x v Q I1 r1 q1) (he _)
theorem vals1 {x:V} {us:List Value} (r:Vals [x] us):∃ u,us=[u]/\RelV x u:=by
 cases r with
 | cons r1 r2=>cases r2; exact ⟨_,rfl,r1⟩
theorem vals2 {x y:V} {us:List Value} (r:Vals [x,y] us):∃ u w',us=[u,w']/\RelV x u/\RelV y w':=by
 cases r with
 | cons r1 r2 =>
  cases r2 with
  | cons r3 r4=>cases r4; exact ⟨_,_,rfl,r1,r3⟩
theorem call_abs:CallR X (.builtin "abs") (fun xs H Q=>∃ i,xs=[.int i]/\Q (.int (if i < 0 then -i else i)) H):=by
 intro pins s σ H xs us Q I r h
 obtain ⟨i,rfl,q⟩:=h
 obtain ⟨u,rfl,t,rfl⟩:=vals1 r
 exact call_abs_int fun u tk=>⟨.int (if i < 0 then -i else i),H,I.tok _,⟨_,rfl⟩,q⟩
theorem call_max2 (hc:X.calm=true):CallR X (.builtin "max") (fun xs H Q=>∃ i j,xs=[.int i,.int j]/\Q (.int (if j > i then j else i)) H):=by
 intro pins s σ H xs us Q I r h
 obtain ⟨i,j,rfl,q⟩:=h
 obtain ⟨u,w',rfl,⟨t,rfl⟩,⟨t',rfl⟩⟩:=vals2 r
 refine max_two_ints (I.ok.hd hc) fun h' tk k=>⟨_,H,I.kept k,?_,q⟩
 by_cases hj:j > i
 ·rw [if_pos hj,if_pos hj]; exact ⟨_,rfl⟩
 ·rw [if_neg hj,if_neg hj]; exact ⟨_,rfl⟩
theorem call_min2 (hc:X.calm=true):CallR X (.builtin "min") (fun xs H Q=>∃ i j,xs=[.int i,.int j]/\Q (.int (if j < i then j else i)) H):=by
 intro pins s σ H xs us Q I r h
 obtain ⟨i,j,rfl,q⟩:=h
 obtain ⟨u,w',rfl,⟨t,rfl⟩,⟨t',rfl⟩⟩:=vals2 r
 refine min_two_ints (I.ok.hd hc) fun h' tk k=>⟨_,H,I.kept k,?_,q⟩
 by_cases hj:j < i
 ·rw [if_pos hj,if_pos hj]; exact ⟨_,rfl⟩
 ·rw [if_neg hj,if_neg hj]; exact ⟨_,rfl⟩
end
end L2
namespace L2
open PySem PySem.Spec PyProof.Rows
end L2
namespace L2
open PySem PySem.Spec PyProof.Rows
structure Room (k:Nat) (A:Around):Prop where
 hd:A.handled=none
 dp:A.depth+3*k+5 < recursionLimit
 un:A.units+16*k+200 < cLine
theorem Room.mono {j k:Nat} {A:Around} (r:Room k A) (h:j<=k):Room j A:=⟨r.hd,by have:=r.dp; omega,by have:=r.un; omega⟩
theorem Room.deeper {k:Nat} {A:Around} (r:Room (k+1) A) (env:Env):Room k (A.deeper env) :=
 ⟨r.hd,by have:=r.dp; show A.depth+1+3*k+5 < _; omega,by have:=r.un; show A.units+3+16*k+200 < _; omega⟩
theorem Room.depth {k:Nat} {A:Around} (r:Room k A):A.depth < recursionLimit:=by have:=r.dp; omega
theorem Room.units {k:Nat} {A:Around} (r:Room k A):A.units+64 < cLine:=by have:=r.un; omega
def tNil:TA:=fun _ H Q=>Q [] H
def tCons (ta:TE) (tr:TA):TA:=fun σ H Q=>ta σ H fun x H1=>tr σ H1 fun xs H2=>Q (x :: xs) H2
section
variable {X:Cx} {e:Expr} {es:List Expr} {te:TE} {t:TA} {pos:Pos}
theorem pa_nil:PA X [] tNil:=fun _ _ _ _ H Q I h=>Calls.spliced_nil ⟨[],H,I,.nil,h⟩
theorem pa_cons (ha:PE X e te) (hr:PA X es t) (hs:starEach (e :: es) X.env=(false,eval e X.env) :: starEach es X.env:=by rfl):PA X (e :: es) (tCons te t):=by
 intro pos pins s σ H Q I h
 rw [hs]
 show wpAny _ _ (spliced ((false,eval e X.env) :: backTo pos (starEach es X.env))) _ _ s
 refine Calls.spliced_cons (thn (ha pins s σ H _ I h) fun u s1 ⟨x,H1,I1,r1,q1⟩=>?_)
 exact thn (hr pos pins s1 σ H1 _ I1 q1) fun us s2 ⟨xs,H2,I2,r2,q2⟩=>⟨x :: xs,H2,I2,.cons r1 r2,q2⟩
def tTup (t:TA):TE:=fun σ H Q=>t σ H fun xs H1=>xs.length<=sizeLine/\∀ p,H1 p=none->Q (.ref p) (upd H1 p (.tup xs))
def tLst (t:TA):TE:=fun σ H Q=>t σ H fun xs H1=>xs.length<=sizeLine/\∀ p,H1 p=none->Q (.ref p) (upd H1 p (.lst xs))
theorem pe_tup {x1} (h:PA X es t):PE X (.Tuple es x1 pos) (tTup t):=by
 intro pins s σ H Q I hq
 refine wpAny_Tuple_spliced (thn (h pos pins s σ H _ I hq) fun us s1 ⟨xs,H1,I1,r,z,q⟩=>⟨by rw [← r.length]; exact z,?_⟩)
 have hf:H1 s1.heap.objs.size=none:=I1.hok.fresh (Nat.le_refl _)
 refine ⟨.ref s1.heap.objs.size,upd H1 s1.heap.objs.size (.tup xs),I1.laid (t':=s1.toks) (fun b u e=>Heap.get?_push_of_some _ e) (Nat.le_refl _) ?_,rfl,q _ hf⟩
 exact ⟨z,us,r,⟨_,Heap.get?_push_size _ rfl,rfl,_,rfl⟩⟩
theorem pe_lst (h:PA X es t):PE X (.List es pos) (tLst t):=by
 intro pins s σ H Q I hq
 refine wpAny_List_spliced (thn (h pos pins s σ H _ I hq) fun us s1 ⟨xs,H1,I1,r,z,q⟩=>⟨by rw [← r.length]; exact z,?_⟩)
 have hf:H1 s1.heap.objs.size=none:=I1.hok.fresh (Nat.le_refl _)
 refine ⟨.ref s1.heap.objs.size,upd H1 s1.heap.objs.size (.lst xs),I1.laid (t':=s1.toks) (fun b u e=>Heap.get?_push_of_some _ e) (Nat.le_refl _) ?_,rfl,q _ hf⟩
 exact ⟨z,us,0,r,Heap.get?_push_size _ rfl⟩
end
abbrev Sp:=List V->Hp->VK->XK->Prop
abbrev CXT:=List Env->Hp->Shared->XK->Value->Shared->Prop
structure Env0 (P:Program) (w:World) (K:PySem.W.Frag) (mg:Str->Option Value) (base:Heap) (A:Around) (outer:List Env) (s:Shared) (H:Hp):Prop where
 frames:A.frames=some outer
 mod:Mod K mg base
 bs:∀ b o,base.get? b=some o->s.heap.get? b=some o/\H b=none
 bsz:base.objs.size<=s.heap.objs.size
 funs:s.heap.FunFrames base outer
 frf:∀ b∈frs outer,H b=none
 hok:HOk P w H s.heap
 bare:AllBare s.gens
def CE (outer:List Env) (P:Program) (w:World) (H:Hp) (s:Shared) (Q:VK) (u:Value) (s':Shared):Prop :=
 ∃ v H',s'.os=s.os/\AllBare s'.gens/\Un (frs outer) [] H H' s.heap s'.heap/\HOk P w H' s'.heap/\RelV v u/\Q v H'
def CR (CX:CXT) (outer:List Env) (P:Program) (w:World) (H:Hp) (s:Shared) (Q:VK) (E:XK) (r:Result) (s':Shared):Prop :=
 match r with
 | .ok (.ret u)=>CE outer P w H s Q u s'
 | .ok _=>False
 | .error e=>CX outer H s E e s'
structure FnOk (P:Program) (w:World) (K:PySem.W.Frag) (mg:Str->Option Value) (base:Heap) (CX:CXT) (k:Nat) (f:Addr) (fd:FuncData) (ps:List Str) (sp:Sp):Prop where
 len:∀ vs H Q E,sp vs H Q E->vs.length=ps.length
 run:∀ (A:Around) (outer:List Env) (s:Shared) (H:Hp) (args:Args) (us:List Value) (vs:List V) (Q:VK) (E:XK),Room k A->Env0 P w K mg base A outer s H->BindsTo s fd args (ps.zip us)->Vals vs us->sp vs H Q E ->
  codeAny (model P w) A (.call (.ref f) args) (CR CX outer P w H s Q E) s
section
variable {X:Cx} {pins:List (Addr×Obj)} {σ:St} {H:Hp} {s s':Shared}
theorem Inv.env0 (I:Inv X pins σ H s):Env0 X.prog X.w X.K X.mg X.base X.A X.stack s H :=
 ⟨I.ok.frames,I.ok.mod,I.bs,Nat.le_trans I.ok.bsz I.sz,I.stack,I.stkFree,I.hok,I.bare⟩
theorem Inv.after {Q:VK} {u:Value} (I:Inv X pins σ H s) (h:CE X.stack X.prog X.w H s Q u s'):EP X pins σ Q u s':=by
 obtain ⟨v,H',os,bare,un,hok,r,q⟩:=h
 obtain ⟨hh,g,d,t,os'⟩:=s'
 obtain rfl:os'=s.os:=os
 exact ⟨v,H',I.call (h':=hh) (g':=g) (d':=d) (t':=t) (ch:=[]) un hok bare (fun b z=>absurd z (by simp)),r,q⟩
end
def tCall (sp:Sp) (dvs:List V) (E:XK) (t:TA):TE:=fun σ H Q=>t σ H fun vs H1=>sp (vs ++ dvs) H1 Q E
def Binds (K:PySem.W.Frag) (fd:FuncData) (ps:List Str) (ds:List Value):Prop :=
 ∀ (s:Shared) (us:List Value),K.In s.heap->(us ++ ds).length=ps.length->BindsTo s fd ⟨us,[]⟩ (ps.zip (us ++ ds))
theorem Binds.all {K:PySem.W.Frag} {fd:FuncData} {ps:List Str} (h:∀ us:List Value,us.length=ps.length->bindArgs fd ⟨us,[]⟩=pure (ps.zip us)):Binds K fd ps []:=fun s us _ hl=>by
 rw [List.append_nil] at hl ⊢
 exact .of_eq (h us hl)
def Passes (CX:CXT) (X:Cx) (E:XK):Prop:=∀ (pins:List (Addr×Obj)) (σ:St) (H:Hp) (s:Shared) (e:Value) (s':Shared),Inv X pins σ H s->CX X.stack H s E e s'->X.xe e s'
section
variable {X:Cx} {CX:CXT} {k:Nat} {f C:Addr} {fd:FuncData} {ps:List Str} {sp:Sp} {dvs:List V} {ds:List Value} {E:XK} {x m:Str} {p pos apos:Pos} {e o:Expr} {es:List Expr} {ta:TE} {t:TA}
theorem run_fn {pins:List (Addr×Obj)} {σ:St} {H:Hp} {s:Shared} {Q:VK} {us:List Value} {vs:List V} (F:FnOk X.prog X.w X.K X.mg X.base CX k f fd ps sp) (hr:Room k X.A) (hb:Binds X.K fd ps ds) (hd:Vals dvs ds) (hx:Passes CX X E)
  (I:Inv X pins σ H s) (r:Vals vs us) (h:sp (vs ++ dvs) H Q E):wpAny (model X.prog X.w) X.A (call (.ref f) us) (EP X pins σ Q) X.xe s:=by
 have r2:Vals (vs ++ dvs) (us ++ ds):=r.append hd
 have hl:(us ++ ds).length=ps.length:=by rw [← r2.length]; exact F.len _ _ _ _ h
 refine wpAny_call (codeAny_mono (F.run X.A X.stack s H ⟨us,[]⟩ (us ++ ds) (vs ++ dvs) Q E hr I.env0 (hb s us I.kIn hl) r2 h) fun r s' hq=>?_)
 cases r with
 | error e=>exact hx pins σ H s e s' I hq
 | ok fl =>
  cases fl with
  | ret u=>exact I.after hq
  | next=>exact False.elim hq
  | brk=>exact False.elim hq
  | cont=>exact False.elim hq
theorem pe_call (F:FnOk X.prog X.w X.K X.mg X.base CX k f fd ps sp) (hr:Room k X.A) (hg:Gl X x) (hm:X.mg x=some (.ref f)) (hk:PySem.W.keepIn X.K (.ref f)=true) (hb:Binds X.K fd ps ds) (hd:Vals dvs ds) (hx:Passes CX X E)
  (ha:PA X (e :: es) t) (hdb:(x == ("__debug__" : Str))=false:=by decide) (he:starEach (e :: es) X.env=(false,eval e X.env) :: starEach es X.env:=by rfl) (hpl:(backTo pos (starEach es X.env)).any (·.1)=false:=by rfl) :
  PE X (.Call (.Name x p) (e :: es) [] pos) (tCall sp dvs E t):=by
 intro pins s σ H Q I h
 refine wpAny_Call_Name_kw (ld_glob I hg hm ?_ hdb)
 refine PySem.W.callWith_K (h₀:=X.base) I.ok.mod.kin hk (thn (ha pos pins s σ H _ I h) fun us s1 ⟨vs,H1,I1,r,q⟩=>⟨I1.kIn,?_⟩) he hpl
 exact run_fn F hr hb hd hx I1 r q
end
structure FnScope (N P:List Str) (sc:Scope):Prop where
 kind:sc.kind=.function
 co:sc.isCoroutine=false
 gen:sc.isGenerator=false
 nd:N.Nodup
 pre:N.take P.length=P
 par:∀ x∈P,sc.names.lookup x=some .local\/sc.names.lookup x=some .cell
 nofree:∀ y∈sc.names,y.2≠.free
theorem bindL_out {kindOf:Str->Option NameKind} {x:Str}:∀ {binds:List (Str×Value)} {m:Str->Option Value},(∀ v,(x,v) ∉ binds)->bindL kindOf binds m x=m x
 | [],_,_=>rfl
 | (n,v) :: r,m,h=>by
  unfold bindL
  rw [bindL_out fun w hw=>h w (List.mem_cons_of_mem _ hw)]
  split
  ·have:x≠n:=by rintro rfl; exact h v List.mem_cons_self
   simp [this]
  ·rfl
theorem bindC_out {kindOf:Str->Option NameKind} {x:Str}:∀ {binds:List (Str×Value)} {m:Str->Option Value},(∀ v,(x,v) ∉ binds)->bindC kindOf binds m x=m x
 | [],_,_=>rfl
 | (n,v) :: r,m,h=>by
  unfold bindC
  rw [bindC_out fun w hw=>h w (List.mem_cons_of_mem _ hw)]
  split
  ·rfl
  ·have:x≠n:=by rintro rfl; exact h v List.mem_cons_self
   simp [this]
theorem bindL_get {kindOf:Str->Option NameKind} {x:Str} {v:Value}:∀ {P:List Str} {vs:List Value} {i:Nat} {m:Str->Option Value},P.Nodup->P[i]? = some x->vs[i]? = some v->kindOf x=some .local ->
  bindL kindOf (P.zip vs) m x=some v
 | [],_,_,_,_,h,_,_=>by simp at h
 | _ :: _,[],_,_,_,_,h,_=>by simp at h
 | p :: P,w :: vs,0,m,nd,h1,h2,hk=>by
  simp at h1 h2; subst h1; subst h2
  show bindL kindOf ((p,w) :: P.zip vs) m p=_
  unfold bindL
  rw [bindL_out fun v hv=>(List.nodup_cons.mp nd).1 (List.of_mem_zip hv).1,if_pos hk]
  simp
 | p :: P,w :: vs,i+1,m,nd,h1,h2,hk=>by
  show bindL kindOf ((p,w) :: P.zip vs) m x=_
  unfold bindL
  exact bindL_get (i:=i) (List.nodup_cons.mp nd).2 (by simpa using h1) (by simpa using h2) hk
theorem bindC_get {kindOf:Str->Option NameKind} {x:Str} {v:Value}:∀ {P:List Str} {vs:List Value} {i:Nat} {m:Str->Option Value},P.Nodup->P[i]? = some x->vs[i]? = some v->kindOf x≠some .local ->
  bindC kindOf (P.zip vs) m x=some v
 | [],_,_,_,_,h,_,_=>by simp at h
 | _ :: _,[],_,_,_,_,h,_=>by simp at h
 | p :: P,w :: vs,0,m,nd,h1,h2,hk=>by
  simp at h1 h2; subst h1; subst h2
  show bindC kindOf ((p,w) :: P.zip vs) m p=_
  unfold bindC
  rw [bindC_out fun v hv=>(List.nodup_cons.mp nd).1 (List.of_mem_zip hv).1,if_neg hk]
  simp
 | p :: P,w :: vs,i+1,m,nd,h1,h2,hk=>by
  show bindC kindOf ((p,w) :: P.zip vs) m x=_
  unfold bindC
  exact bindC_get (i:=i) (List.nodup_cons.mp nd).2 (by simpa using h1) (by simpa using h2) hk
def start (N:List Str) (vs:List V):St:=vs.map some ++ List.replicate (N.length - vs.length) none
def cxOf (CX:CXT) (P:Program) (w:World) (K:PySem.W.Frag) (mg:Str->Option Value) (base:Heap) (N:List Str) (qual:Str) (scope:Scope) (f:Addr) (cd:Value) (A:Around) (outer:List Env) (s:Shared) (H:Hp) (E:XK):Cx where
 prog:=P
 w:=w
 K:=K
 mg:=mg
 base:=base
 A:=A.deeper (envOfC qual scope s.heap.objs.size f cd)
 N:=N
 s_0:=s
 H_0:=H
 env:=envOfC qual scope s.heap.objs.size f cd
 outer:=outer
 stack:=envOfC qual scope s.heap.objs.size f cd :: outer
 ex:=[]
 calm:=true
 fn:=fun _=>true
 pn:=[]
 xe:=fun e s'=>wpAny (model P w) (A.deeper (envOfC qual scope s.heap.objs.size f cd)) (leaving (envOfC qual scope s.heap.objs.size f cd) e) (fun _ s''=>CX outer H s E e s'') (fun e' s''=>CX outer H s E e' s'') s'
theorem cell_has {sc:Scope} {n:Nat} {x:Str} (h:sc.names.lookup x=some .cell):∃ c,(cellsFrom n sc.names []).lookup x=some c:=by
 have q:=PySem.W.cellsFrom_some sc.names n [] (.inl h)
 exact Option.isSome_iff_exists.mp q
theorem inv_start {CX:CXT} {P:Program} {w:World} {K:PySem.W.Frag} {mg:Str->Option Value} {base:Heap} {N ps:List Str} {qual:Str} {scope:Scope} {f:Addr} {cd:Value} {A:Around} {outer:List Env} {s s1:Shared} {H:Hp} {E:XK} {us:List Value} {vs:List V}
  (S:FnScope N ps scope) (hd:A.handled=none) (e0:Env0 P w K mg base A outer s H) (hl:vs.length=ps.length) (r:Vals vs us)
  (x:InCallC s s.heap.objs.size (bindL (envOfC qual scope s.heap.objs.size f cd).kindOf (ps.zip us) fun _=>none) (cellsFrom (s.heap.objs.size+1) scope.names []) (bindC (envOfC qual scope s.heap.objs.size f cd).kindOf (ps.zip us) fun _=>none) s1) :
  Inv (cxOf CX P w K mg base N qual scope f cd A outer s H E) [] (start N vs) H s1:=by
 have hpl:ps.length<=N.length:=by have:=congrArg List.length S.pre; rw [List.length_take] at this; omega
 obtain ⟨h1,tk,rfl,hk⟩:=x.done
 have noA:∀ b:Addr,b ∉ (cxOf CX P w K mg base N qual scope f cd A outer s H E).ex:=fun b z=>absurd (show b∈([]:List Addr) from z) (by simp)
 refine ⟨⟨e0.mod,S.kind,rfl,rfl,Nat.le_refl _,fun y z c h1 h2=>?_,fun y hy=>?_,fun y c _ h=>?_,fun _=>hd,Around.frames_deeper e0.frames,.inr ⟨rfl,rfl⟩,fun b z=>absurd z (noA b),e0.bs,e0.bsz,fun b _ _=>noA b,fun b z=>absurd z (noA b),e0.funs,e0.frf⟩,
  rfl,e0.bare,Un.kept hk,⟨_,x.toInCall.ns,fun i y v h1 h2 h3=>?_⟩,fun y c h=>⟨_,x.cell y c h⟩,e0.hok.fresh (Nat.le_refl _),fun y c h=>?_,fun p hp=>absurd (show p∈([]:List (Addr×Obj)) from hp) (by simp),e0.hok.kept hk,?_⟩
 ·exact name_of_addr x.apart (PySem.mem_of_lookup h1) (PySem.mem_of_lookup h2)
 ·have hy:scope.names.lookup y=some .cell\/scope.names.lookup y=some .free:=hy
  rcases hy with hy | hy
  ·exact cell_has hy
  ·exact absurd rfl (S.nofree _ (PySem.mem_of_lookup hy))
 ·exact Nat.le_of_lt (x.above y c (PySem.mem_of_lookup h))
 ·have hi:i < vs.length:=by
   unfold start at h2
   by_cases hi:i < vs.length
   ·exact hi
   ·rw [List.getElem?_append_right (by simpa using hi)] at h2
    rw [List.getElem?_replicate] at h2
    split at h2 <;> cases h2
  have ha:vs[i]? = some v:=by
   unfold start at h2
   rw [List.getElem?_append_left (by simpa using hi),List.getElem?_map] at h2
   cases e:vs[i]? with
   | none=>rw [e] at h2; cases h2
   | some a=>rw [e] at h2; cases h2; rfl
  obtain ⟨u,hu,rv⟩:=r.get ha
  have hp:ps[i]? = some y:=by
   rw [← S.pre,List.getElem?_take_of_lt (by omega)]; exact h1
  have ndP:ps.Nodup:=by rw [← S.pre]; exact S.nd.sublist (List.take_sublist _ _)
  refine ⟨u,rv,?_⟩
  rcases S.par y (List.mem_of_getElem? hp) with k | k
  ·exact .inl ⟨k,bindL_get ndP hp hu k⟩
  ·obtain ⟨c,e⟩:=cell_has (n:=s.heap.objs.size+1) k
   refine .inr ⟨.inl k,c,e,?_⟩
   have q:=x.cell y c e
   rw [bindC_get ndP hp hu (by show scope.names.lookup y≠_; rw [k]; decide)] at q
   exact q
 ·exact e0.hok.fresh (Nat.le_of_lt (x.above y c (PySem.mem_of_lookup h)))
 ·unfold start
  show _=N.length
  rw [List.length_append,List.length_map,List.length_replicate]
  omega
theorem fn_of {CX:CXT} {P:Program} {w:World} {K:PySem.W.Frag} {mg:Str->Option Value} {base:Heap} {k:Nat} {f:Addr} {name qual:Str} {params:Arguments} {body:List Stmt} {scope:Scope} {dV kV doc pm cdv ct oc:Value} {an od:Option Addr}
  {osl:Array (Option Value)} {N ps:List Str} {sp:Sp} (lk:K.lookup f=some ⟨oc,od,.func (PySem.W.fnOf name qual params body scope dV kV doc pm an cdv ct),osl⟩) (hcd:PySem.W.codeIn K cdv qual=true) (S:FnScope N ps scope)
  (len:∀ vs H Q E,sp vs H Q E->vs.length=ps.length)
  (hbody:∀ (A:Around) (outer:List Env) (s:Shared) (H:Hp) (vs:List V) (Q:VK) (E:XK),Room k (A.deeper (envOfC qual scope s.heap.objs.size f cdv))->sp vs H Q E ->
   ∃ t,PSs (cxOf CX P w K mg base N qual scope f cdv A outer s H E) body t/\t { nx:=fun _ H'=>Q .non H',rt:=Q } (start N vs) H) :
  FnOk P w K mg base CX (k+1) f (PySem.W.fnOf name qual params body scope dV kV doc pm an cdv ct) ps sp:=by
 refine ⟨len,fun A outer s H args us vs Q E hr e0 hb r hsp=>?_⟩
 have hl:=len _ _ _ _ hsp
 have KX:K.In s.heap:=e0.mod.kin.keeps fun b o e=>(e0.bs b o e).1
 have lim:s.heap.NoLimit:=e0.mod.nolimit.keeps fun b o e=>(e0.bs b o e).1
 have hkind:∀ y∈ps.zip us,scope.names.lookup y.1=some .local\/(scope.names.lookup y.1=some .cell/\((cellsFrom (s.heap.objs.size+1) scope.names []).lookup y.1).isSome=true):=fun ⟨n,v⟩ hy=>by
  rcases S.par n (List.of_mem_zip hy).1 with q | q
  ·exact .inl q
  ·exact .inr ⟨q,PySem.W.cellsFrom_some _ _ _ (.inl q)⟩
 refine codeAny_call_function hr.depth (KX _ _ lk) rfl S.co S.gen rfl (PySem.W.codeRec_of KX hcd) (hb _ _ _ _ ?_)
 refine wpAny_newFunctionEnv_cells S.kind hkind fun env he s1 x=>?_
 subst he
 refine ⟨lim.keeps x.toInCall.keep,codeAny_func ?_⟩
 obtain ⟨t,ht,hq⟩:=hbody A outer s H vs Q E (hr.deeper _) hsp
 have I:Inv (cxOf CX P w K mg base N qual scope f cdv A outer s H E) [] (start N vs) H s1:=inv_start S hr.hd e0 hl r x
 refine wpAny_mono (ht [] s1 (start N vs) H _ I hq) (fun fl s' hs=>?_) fun e s' hs=>hs
 have fin:∀ {σ':St} {H':Hp} {v:V} {u:Value},Inv (cxOf CX P w K mg base N qual scope f cdv A outer s H E) [] σ' H' s'->RelV v u->Q v H'->CE outer P w H s Q u s' :=
  fun {σ' H' v u} J rv q=>⟨v,H',J.os,J.bare,J.base,J.hok,rv,q⟩
 cases fl with
 | ret u =>
  obtain ⟨v,σ',H',J,rv,q⟩:=hs
  exact fin J rv q
 | next =>
  obtain ⟨σ',H',J,q⟩:=hs
  exact fin (v:=V.non) (u:=Value.none) J rfl q
 | brk =>
  obtain ⟨_,_,_,q⟩:=hs
  exact False.elim q
 | cont =>
  obtain ⟨_,_,_,q⟩:=hs
  exact False.elim q
end L2
namespace L2
open PySem PySem.Spec PyProof.Rows
section
variable {X:Cx} {x:Str} {p pos:Pos} {e:Expr} {es:List Expr} {t:TA} {id T:String} {r:List V->Hp->VK->Prop}
def tCB (r:List V->Hp->VK->Prop) (t:TA):TE:=fun σ H Q=>t σ H fun vs H1=>r vs H1 Q
theorem pe_callB (hc:CallR X (.builtin id) r) (hg:Gl X x) (hm:X.mg x=none) (hv:bootBuiltins x=some (.builtin id)) (ha:PA X (e :: es) t) (hn:x≠"__name__":=by decide) (hdb:(x == ("__debug__" : Str))=false:=by decide)
  (he:starEach (e :: es) X.env=(false,eval e X.env) :: starEach es X.env:=by rfl) (hpl:(backTo pos (starEach es X.env)).any (·.1)=false:=by rfl):PE X (.Call (.Name x p) (e :: es) [] pos) (tCB r t):=by
 intro pins s σ H Q I h
 refine wpAny_Call_Name_kw (ld_blt I hg hm hv ?_ hn hdb)
 exact PyProof.Rows.callWith_builtin1 (thn (ha pos pins s σ H _ I h) fun us s1 ⟨vs,H1,I1,r1,q1⟩=>hc pins s1 σ H1 vs us Q I1 r1 q1) he hpl
theorem pe_callTy (hc:CallR X (.type T) r) (hg:Gl X x) (hm:X.mg x=none) (hv:bootBuiltins x=some (.type T)) (ha:PA X (e :: es) t) (hn:x≠"__name__":=by decide) (hdb:(x == ("__debug__" : Str))=false:=by decide)
  (he:starEach (e :: es) X.env=(false,eval e X.env) :: starEach es X.env:=by rfl) (hpl:(backTo pos (starEach es X.env)).any (·.1)=false:=by rfl):PE X (.Call (.Name x p) (e :: es) [] pos) (tCB r t):=by
 intro pins s σ H Q I h
 refine wpAny_Call_Name_kw (ld_blt I hg hm hv ?_ hn hdb)
 exact PyProof.Rows.callWith_type1 (thn (ha pos pins s σ H _ I h) fun us s1 ⟨vs,H1,I1,r1,q1⟩=>hc pins s1 σ H1 vs us Q I1 r1 q1) he hpl
end
end L2
namespace HT
open PySem PyProof.Rows
def lexLt:List Int->List Int->Bool
 | [],[]=>false
 | [],_ :: _=>true
 | _ :: _,[]=>false
 | x :: xs,y :: ys=>if x=y then lexLt xs ys else decide (x < y)
theorem lexLt_cons (x y:Int) (xs ys:List Int):lexLt (x :: xs) (y :: ys)=if x=y then lexLt xs ys else decide (x < y):=rfl
theorem lexLt_nil_nil:lexLt [] []=false:=rfl
theorem lexLt_nil_cons (y:Int) (ys:List Int):lexLt [] (y :: ys)=true:=rfl
theorem lexLt_cons_nil (x:Int) (xs:List Int):lexLt (x :: xs) []=false:=rfl
theorem eqAt_int (A:Around) (s:Shared) (a:Int) (t:Tok) (c:Int) (u:Tok):∃ e,SeqAt.EqAt A s (.int a t) (.int c u) e/\(e=true↔a=c) :=
 ⟨(a == c),SeqAt.EqAt.int_int a t c u,by simp⟩
theorem rcLt_int (A:Around) (s:Shared) (a:Int) (t:Tok) (c:Int) (u:Tok) (prog:Program) (w:World) (E:Value->Shared->Prop) (Q:Value->Shared->Prop) (h:Q (.bool (decide (a < c))) s) :
  wpAny (model prog w) A (richCompare .Lt (.int a t) (.int c u)) Q E s :=
 (PyProof.Rows.lt_int h:wpAny (model prog w) A (compareOp .Lt (.int a t) (.int c u)) Q E s)
section
open PySem.SeqAt
open PySem.AutoSeq1 (wpAny_loadPart')
open PySem.MeetsSeq PySem.MeetsSeq2 PySem.MeetsSeq3
end
section
variable {prog:Program} {w:World} {A:Around} {E:Value->Shared->Prop} {s:Shared}
theorem cat_tup {t b:Addr} {vs ws:List Value} {Q:Value->Shared->Prop} (ht:IsTup s.heap t vs.toArray) (hb:IsTup s.heap b ws.toArray) (hv:vs≠[])
  (h1:ws=[]->Q (.ref t) s) (h2:ws≠[]->Q (.ref s.heap.objs.size) { s with heap:=s.heap.push { cls:=.type "tuple",data:=.seq (vs ++ ws).toArray } })
  (hsz:vs.length+ws.length<=sizeLine):wpAny (model prog w) A (binaryOp .Add (.ref t) (.ref b)) Q E s:=by
 obtain ⟨⟨cls,dd,data,sl⟩,ho,hc,n,hd⟩:=id ht
 obtain ⟨⟨cls2,dd2,data2,sl2⟩,ho2,hc2,n2,hd2⟩:=id hb
 simp only at hc hd hc2 hd2
 subst hc hd hc2 hd2
 have e:vs.toArray ++ ws.toArray=(vs ++ ws).toArray:=by simp
 by_cases hw:ws=[]
 ·exact concat_meets ⟨_,ho,rfl⟩ ⟨_,ho2,rfl⟩ noFill_tuple_add seq_tuple_add PySem.F.slot_tuple_add PySem.F.entry_tuple_add (PySem.F.args_tuple_add_2 _ _)
   (tuple_addW1 t b vs.toArray ws.toArray n n2 dd dd2 sl sl2 (by simpa using hv) (by simp [hw])) ⟨ho,ho2,h1 hw⟩
 ·refine concat_meets ⟨_,ho,rfl⟩ ⟨_,ho2,rfl⟩ noFill_tuple_add seq_tuple_add PySem.F.slot_tuple_add PySem.F.entry_tuple_add (PySem.F.args_tuple_add_2 _ _)
   (tuple_addW2 t b vs.toArray ws.toArray n n2 dd dd2 sl sl2 (by simpa using hv) (by simpa using hw) (by rw [List.size_toArray,List.size_toArray]; exact hsz)) ⟨ho,ho2,?_⟩
  rw [e]
  exact h2 hw
def sIx (n d:Nat):Option Int->Nat
 | none=>d
 | some v=>if v < 0 then (v+(n:Int)).toNat else min v.toNat n
end
end HT
namespace L2
open PySem PySem.Spec PyProof.Rows
abbrev TO:=St->Hp->(Option Int->Hp->Prop)->Prop
def PO (X:Cx) (e:Option Expr) (t:TO):Prop :=
 ∀ (pins:List (Addr×Obj)) (s:Shared) (σ:St) (H:Hp) (Q:Option Int->Hp->Prop),Inv X pins σ H s->t σ H Q ->
  wpAny (model X.prog X.w) X.A (evalPart e X.env) (fun u s'=>∃ o H',Inv X pins σ H' s'/\IsPart u o/\Q o H') X.xe s
def tNoPart:TO:=fun _ H Q=>Q none H
def tPart (t:TE):TO:=fun σ H Q=>t σ H fun x H1=>∃ i,x=.int i/\Q (some i) H1
theorem intsAre_of {ns:List Int}:∀ {us:List Value},Vals (ns.map V.int) us->IntsAre us ns:=by
 induction ns with
 | nil=>intro us r; rw [List.map_nil] at r; cases r; exact .nil
 | cons n ns ih =>
  intro us r
  rw [List.map_cons] at r
  cases r with
  | cons r1 r2 =>
   obtain ⟨t,e⟩:=r1
   subst e
   exact .cons n t (ih r2)
section
variable {X:Cx} {e:Expr} {te:TE} {lo hi:Option Expr} {tl th:TO} {pos p2:Pos}
theorem po_none:PO X none tNoPart:=by
 intro pins s σ H Q I h
 rw [evalPart_none]
 exact wpAny_pure ⟨none,H,I,.none,h⟩
theorem po_some (h:PE X e te):PO X (some e) (tPart te):=by
 intro pins s σ H Q I hw
 rw [evalPart_some]
 refine thn (h pins s σ H _ I hw) fun u s1 ⟨x,H1,I1,r1,q1⟩=>?_
 obtain ⟨i,rfl,q⟩:=q1
 obtain ⟨t,rfl⟩:=r1
 exact ⟨some i,H1,I1,.int i t,q⟩
def SlR (X:Cx) (r:V->Option Int->Option Int->Hp->VK->Prop):Prop :=
 ∀ (pins:List (Addr×Obj)) (s:Shared) (σ:St) (H:Hp) (x:V) (v vl vu:Value) (lo hi:Option Int) (sl:Addr) (Q:VK),Inv X pins σ H s->RelV x v->s.heap.IsSliceOf sl vl vu .none->IsPart vl lo->IsPart vu hi->r x lo hi H Q ->
  ∃ T id,typeLookup (.type T) "__getitem__" = pure (some (.builtin id))/\s.TypeIs v T/\wpAny (model X.prog X.w) X.A (getItem v (.ref sl)) (EP X pins σ Q) X.xe s
def tSl (r:V->Option Int->Option Int->Hp->VK->Prop) (te:TE) (tl th:TO):TE:=fun σ H Q=>te σ H fun x H1=>tl σ H1 fun l H2=>th σ H2 fun u H3=>r x l u H3 Q
theorem pe_slice {r:V->Option Int->Option Int->Hp->VK->Prop} (hr:SlR X r) (he:PE X e te) (hl:PO X lo tl) (hu:PO X hi th):PE X (.Subscript e (.Slice lo hi none p2) pos) (tSl r te tl th):=by
 intro pins s σ H Q I h
 refine Subscript_ (thn (he pins s σ H _ I h) fun v s1 ⟨x,H1,I1,r1,q1⟩=>?_)
 refine wpAny_Slice (thn (hl pins s1 σ H1 _ I1 q1) fun vl s2 ⟨l,H2,I2,pl,q2⟩=>thn (hu pins s2 σ H2 _ I2 q2) fun vu s3 ⟨u,H3,I3,pu,q3⟩=>?_)
 rw [evalPart_none]
 refine wpAny_pure ?_
 have I4:Inv X pins σ H3 { s3 with heap:=s3.heap.push { cls:=.type "slice",data:=.fields #[vl,vu,.none] } }:=I3.kept (t':=s3.toks) fun b ob q=>Heap.get?_push_of_some _ q
 obtain ⟨T,id,hT,ht,hg⟩:=hr pins { s3 with heap:=s3.heap.push { cls:=.type "slice",data:=.fields #[vl,vu,.none] } } σ H3 x v vl vu l u s3.heap.objs.size Q I4 r1 (Heap.IsSliceOf.new ..) pl pu q3
 show wpAny (model X.prog X.w) X.A (subscriptTail e (.Slice lo hi none p2) v (.ref s3.heap.objs.size)) (EP X pins σ Q) X.xe { s3 with heap:=s3.heap.push { cls:=.type "slice",data:=.fields #[vl,vu,.none] } }
 exact tail_any (ops:=[.ref s3.heap.objs.size,v]) ht hT hg (by with_unfolding_all rfl)
def cutV (xs:List V) (lo hi:Option Int):List V:=(xs.drop (HT.sIx xs.length 0 lo)).take (HT.sIx xs.length xs.length hi - HT.sIx xs.length 0 lo)
theorem cutV_length (xs:List V) (lo hi:Option Int):(cutV xs lo hi).length<=xs.length:=by
 unfold cutV
 rw [List.length_take,List.length_drop]
 omega
def rCatT (K:PySem.W.Frag):R2:=fun x y H Q=>∃ a b xs ys,x=.ref a/\y=.ref b/\SqT K H a xs/\SqT K H b ys/\xs≠[]/\xs.length+ys.length<=sizeLine /\
 (ys=[]->Q (.ref a) H)/\(ys≠[]->∀ p,H p=none->Q (.ref p) (upd H p (.tup (xs ++ ys))))
theorem Vals.nil_iff {xs:List V} {us:List Value} (r:Vals xs us):us=[]↔xs=[]:=by
 cases r with
 | nil=>simp
 | cons _ _=>simp
theorem op_catT:OpR X (binaryOp .Add) (rCatT X.K):=by
 intro pins s σ H x y v u Q I rx ry h
 obtain ⟨a,b,xs,ys,rfl,rfl,ha,hb,hx,hz,q1,q2⟩:=h
 cases rx
 cases ry
 obtain ⟨its,r1,p1,_⟩:=I.tuple ha
 obtain ⟨its2,r2,p2,_⟩:=I.tuple hb
 refine HT.cat_tup p1 p2 (fun z=>hx (r1.nil_iff.mp z)) (fun z=>⟨.ref a,H,I,rfl,q1 (r2.nil_iff.mp z)⟩) (fun z=>?_) (by rw [← r1.length,← r2.length]; exact hz)
 refine ⟨.ref s.heap.objs.size,_,I.laid (t':=s.toks) (o:=.tup (xs ++ ys)) (fun b ob q=>Heap.get?_push_of_some _ q) (Nat.le_refl _) ?_,rfl,q2 (fun w=>z (r2.nil_iff.mpr w)) _ (I.hok.fresh (Nat.le_refl _))⟩
 exact ⟨by rw [List.length_append]; exact hz,_,r1.append r2,IsTup.new _ _⟩
end
end L2
namespace L2
open PySem PySem.Spec PyProof.Rows
def ixN (n:Nat) (i:Int):Option Nat:=if 0<=i then (if i < n then some i.toNat else none) else if -(n:Int)<=i then some (i+n).toNat else none
def atI {α:Type} (xs:List α) (i:Int):Option α:=(ixN xs.length i).bind fun j=>xs[j]?
theorem ixN_seq {n:Nat} {i:Int} {j:Nat} (h:ixN n i=some j):seqIndex? i n=some j/\j < n/\-(n:Int)<=i/\i < n:=by
 unfold ixN at h
 by_cases h0:0<=i
 ·rw [if_pos h0] at h
  by_cases h1:i < n
  ·rw [if_pos h1] at h
   have e:i.toNat=j:=Option.some.inj h
   exact ⟨by rw [seqIndex_of h0 h1,e],by omega,by omega,h1⟩
  ·rw [if_neg h1] at h; cases h
 ·rw [if_neg h0] at h
  by_cases h1:-(n:Int)<=i
  ·rw [if_pos h1] at h
   have e:(i+n).toNat=j:=Option.some.inj h
   exact ⟨by rw [seqIndex_neg (by omega) h1,e],by omega,h1,by omega⟩
  ·rw [if_neg h1] at h; cases h
theorem atI_get {α:Type} {xs:List α} {i:Int} {v:α} (h:atI xs i=some v):∃ j,seqIndex? i xs.length=some j/\xs[j]? = some v/\j < xs.length/\-(xs.length:Int)<=i/\i < xs.length:=by
 unfold atI at h
 cases e:ixN xs.length i with
 | none=>rw [e] at h; cases h
 | some j =>
  rw [e] at h
  obtain ⟨h1,h2,h3,h4⟩:=ixN_seq e
  exact ⟨j,h1,h,h2,h3,h4⟩
theorem atI_nat {α:Type} {xs:List α} {j:Nat} {v:α} (h:xs[j]? = some v):atI xs (j:Int)=some v:=by
 have hj:j < xs.length:=(List.getElem?_eq_some_iff.mp h).1
 have e:ixN xs.length (j:Int)=some j:=by
  unfold ixN
  rw [if_pos (by omega),if_pos (by omega)]; simp
 unfold atI; rw [e]; exact h
def PlainIx (b:Expr):Prop:=∀ o i,subscripted b false o i=operate [o,i] (getItem o i)
def IxR (X:Cx) (r:R2):Prop :=
 ∀ (value slice:Expr) (pins:List (Addr×Obj)) (s:Shared) (σ:St) (H:Hp) (x y:V) (v u:Value) (Q:VK),Inv X pins σ H s->RelV x v->RelV y u->r x y H Q ->
  subscripted slice false v u=operate [v,u] (getItem v u)->wpAny (model X.prog X.w) X.A (subscriptTail value slice v u) (EP X pins σ Q) X.xe s
def MtR (X:Cx) (id:String) (r:V->List V->Hp->VK->Prop):Prop :=
 ∀ (pins:List (Addr×Obj)) (s:Shared) (σ:St) (H:Hp) (x:V) (xs:List V) (v:Value) (us:List Value) (Q:VK),Inv X pins σ H s->RelV x v->Vals xs us->r x xs H Q ->
  wpAny (model X.prog X.w) X.A (call (.builtin id) (v :: us)) (EP X pins σ Q) X.xe s
section
variable {X:Cx} {a b:Expr} {ta tb:TE} {pos:Pos}
theorem pe_ix {r:R2} (hr:IxR X r) (ha:PE X a ta) (hb:PE X b tb) (hs:PlainIx b):PE X (.Subscript a b pos) (tOp r ta tb):=by
 intro pins s σ H Q I h
 exact Subscript_ (binT ha hb I h fun v u s2 x y H2 I2 rx ry q=>hr a b pins s2 σ H2 x y v u Q I2 rx ry q (hs _ _))
def rIxL (K:PySem.W.Frag):R2:=fun x y H Q=>∃ p xs i v,x=.ref p/\y=.int i/\SqL K H p xs/\atI xs i=some v/\Q v H
def rIxT (K:PySem.W.Frag):R2:=fun x y H Q=>∃ p xs i v,x=.ref p/\y=.int i/\SqT K H p xs/\atI xs i=some v/\Q v H
theorem ix_list:IxR X (rIxL X.K):=by
 intro value slice pins s σ H x y v u Q I rx ry h hs
 obtain ⟨p,xs,i,z,rfl,rfl,hq,he,q⟩:=h
 cases rx
 obtain ⟨t,rfl⟩:=ry
 obtain ⟨its,r,pl,hz⟩:=I.list hq
 obtain ⟨j,h1,h2,h3,h4,h5⟩:=atI_get he
 obtain ⟨w,ew,rw'⟩:=r.get h2
 have hl:=r.length
 have hn:=line63
 have fin:EP X pins σ Q w s:=⟨z,H,I,rw',q⟩
 by_cases h0:0<=i
 ·have hj:i.toNat=j:=by
   rw [seqIndex_of h0 h5] at h1
   exact Option.some.inj h1
  exact item_listR pl.isList h0 (by omega) (by rw [hj]; simpa using ew) fin hs
 ·have hj:(i+(its.toArray.size:Int)).toNat=j:=by
   rw [seqIndex_neg (by omega) h4] at h1
   rw [List.size_toArray,← hl]
   exact Option.some.inj h1
  exact subscriptTail_builtinR (x:=w) pl.isList.typeIs slot_list_getitem.lookup
   (wpAny_getItem_list_neg (Q:=fun r s'=>r=w/\EP X pins σ Q r s') pl.isList (by omega) (by rw [List.size_toArray] <;> omega) (by omega) (by rw [hj]; simpa using ew) ⟨rfl,fin⟩) hs
theorem ix_tup:IxR X (rIxT X.K):=by
 intro value slice pins s σ H x y v u Q I rx ry h hs
 obtain ⟨p,xs,i,z,rfl,rfl,hq,he,q⟩:=h
 cases rx
 obtain ⟨t,rfl⟩:=ry
 obtain ⟨its,r,pl,hz⟩:=I.tuple hq
 obtain ⟨j,h1,h2,h3,h4,h5⟩:=atI_get he
 obtain ⟨w,ew,rw'⟩:=r.get h2
 have hl:=r.length
 have hn:=line63
 have fin:EP X pins σ Q w s:=⟨z,H,I,rw',q⟩
 exact subscriptTail_builtinR (x:=w) pl.typeIs slot_tuple_getitem.lookup
  (getItem_tuple (j:=j) (Q:=fun r s'=>r=w/\EP X pins σ Q r s') pl (by omega) (by omega) (by rw [List.size_toArray,← hl]; exact h1) (by simpa using ew) ⟨rfl,fin⟩) hs
theorem slice_bounds (lo hi:Option Int) (n:Nat):(sliceBounds lo hi none n).1=((HT.sIx n 0 lo:Nat):Int)/\(sliceBounds lo hi none n).2.1=((HT.sIx n n hi:Nat):Int)/\(sliceBounds lo hi none n).2.2=1:=by
 refine ⟨?_,?_,rfl⟩
 ·cases lo with
  | none=>simp [sliceBounds,HT.sIx]
  | some i =>
   simp only [sliceBounds,HT.sIx,Option.getD_none,show (1:Int) > 0 by decide,if_true]
   by_cases h:i < 0
   ·simp only [h,if_true] <;> omega
   ·simp only [h,if_false] <;> omega
 ·cases hi with
  | none=>simp [sliceBounds,HT.sIx]
  | some i =>
   simp only [sliceBounds,HT.sIx,Option.getD_none,show (1:Int) > 0 by decide,if_true]
   by_cases h:i < 0
   ·simp only [h,if_true] <;> omega
   ·simp only [h,if_false] <;> omega
theorem slicePick_cut (its:List Value) (lo hi:Option Int):slicePick its.toArray lo hi none=((its.drop (HT.sIx its.length 0 lo)).take (HT.sIx its.length its.length hi - HT.sIx its.length 0 lo)).toArray:=by
 obtain ⟨h1,h2,h3⟩:=slice_bounds lo hi its.toArray.size
 unfold slicePick
 rw [h1,h2,h3]
 simp only [sliceRange_one,pick_run,List.size_toArray] <;> rfl
def rSlL (K:PySem.W.Frag):V->Option Int->Option Int->Hp->VK->Prop:=fun x lo hi H Q=>∃ a xs,x=.ref a/\SqL K H a xs/\∀ p,H p=none->Q (.ref p) (upd H p (.lst (cutV xs lo hi)))
theorem sl_list:SlR X (rSlL X.K):=by
 intro pins s σ H x v vl vu lo hi sl Q I rx hs pl pu h
 obtain ⟨a,xs,rfl,hx,q⟩:=h
 cases rx
 obtain ⟨its,r,ht,hz⟩:=I.list hx
 have hlen:=r.length
 refine ⟨"list",_,slot_list_getitem.lookup,ht.isList.typeIs,?_⟩
 refine wpAny_getItem_list_slice ht.isList hs pl pu .none (by simp) ?_ (by rw [List.size_toArray] <;> omega)
 rw [slicePick_cut,← hlen]
 refine ⟨.ref s.heap.objs.size,_,I.laid (t':=s.toks) (o:=.lst (cutV xs lo hi)) (fun b ob q=>Heap.get?_push_of_some _ q) (Nat.le_refl _) ?_,rfl,q _ (I.hok.fresh (Nat.le_refl _))⟩
 exact ⟨Nat.le_trans (cutV_length xs lo hi) hz,_,0,(r.drop (HT.sIx xs.length 0 lo)).take (HT.sIx xs.length xs.length hi - HT.sIx xs.length 0 lo),Heap.get?_push_size _ rfl⟩
theorem call_len_seq:CallR X (.builtin "len") (fun xs H Q=>∃ p ys,xs=[.ref p]/\(SqL X.K H p ys\/SqT X.K H p ys)/\Q (.int ys.length) H):=by
 intro pins s σ H xs us Q I r h
 obtain ⟨p,ys,rfl,hq,q⟩:=h
 obtain ⟨u,rfl,rx⟩:=vals1 r
 cases rx
 have hn:=line63
 rcases hq with hq | hq
 ·obtain ⟨its,r',pl,hz⟩:=I.list hq
  have hlen:=r'.length
  exact Calls.call_len_list pl.isList (by simp only [List.size_toArray] <;> omega) ⟨.int ys.length,H,I.tok _,⟨s.toks+1,by rw [List.size_toArray,hlen]⟩,q⟩
 ·obtain ⟨its,r',pl,hz⟩:=I.tuple hq
  have hlen:=r'.length
  exact len_tuple pl (by simp only [List.size_toArray] <;> omega) ⟨.int ys.length,H,I.tok _,⟨s.toks+1,by rw [List.size_toArray,hlen]⟩,q⟩
theorem call_list_of:CallR X (.type "list") (fun xs H Q=>∃ p ys,xs=[.ref p]/\(SqL X.K H p ys\/SqT X.K H p ys)/\∀ l,H l=none->Q (.ref l) (upd H l (.lst ys))):=by
 intro pins s σ H xs us Q I r h
 obtain ⟨p,ys,rfl,hq,q⟩:=h
 obtain ⟨u,rfl,rx⟩:=vals1 r
 cases rx
 have fin:∀ (its:List Value),Vals ys its->ys.length<=sizeLine->∀ (h':Heap) (c':Nat),(∀ b o',s.heap.get? b=some o'->h'.get? b=some o') ->
   h'.get? s.heap.objs.size=some { cls:=.type "list",dict:=none,data:=.seq its.toArray c',slots:=#[] }->EP X pins σ Q (.ref s.heap.objs.size) { s with heap:=h' }:=fun its r' hz h' c' kp e =>
  ⟨.ref s.heap.objs.size,_,I.laid (t':=s.toks) kp (Nat.le_refl _) (show ObjOk X.prog X.w _ h' _ (.lst ys) from ⟨hz,its,c',r',e⟩),rfl,q _ (I.hok.fresh (Nat.le_refl _))⟩
 rcases hq with hq | hq
 ·obtain ⟨its,r',pl,hz⟩:=I.list hq
  have hlen:=r'.length
  obtain ⟨o,ho,hc,n,hd⟩:=pl.isList
  exact call_list_seq p (.inl rfl) ho hc hd (fun h' c' kp e=>fin its r' hz h' c' kp e) (by simp only [List.size_toArray] <;> omega)
 ·obtain ⟨its,r',pl,hz⟩:=I.tuple hq
  have hlen:=r'.length
  obtain ⟨o,ho,hc,n,hd⟩:=pl
  exact call_list_seq p (.inr rfl) ho hc hd (fun h' c' kp e=>fin its r' hz h' c' kp e) (by simp only [List.size_toArray] <;> omega)
def tyV (K:PySem.W.Frag) (T:String) (x:V) (H:Hp):Prop:=match x with
 | .str _=>T = "str"
 | .int _=>T = "int"
 | .ref p=>(T = "list"/\∃ xs,SqL K H p xs)\/(T = "tuple"/\∃ o,K.lookup p=some o/\o.cls=.type "tuple"/\o.dict=none) \/
   (T = "dict"/\((∃ kvs,H p=some (.dK kvs))\/∃ kvs,H p=some (.dT kvs)))\/(T = "set"/\∃ S n,H p=some (.set S n))
 | _=>False
theorem tyV_is {pins:List (Addr×Obj)} {σ:St} {H:Hp} {s:Shared} {T:String} {x:V} {v:Value} (I:Inv X pins σ H s) (r:RelV x v) (ty:tyV X.K T x H) :
  s.TypeIs v T/\∀ a,v=.ref a->∃ ob,s.heap.get? a=some ob/\ob.dict=none:=by
 cases x with
 | str z =>
  obtain ⟨t,rfl⟩:=r
  cases (show T = "str" from ty)
  exact ⟨typeIs_str s z t,fun _ e=>nomatch e⟩
 | int i =>
  obtain ⟨t,rfl⟩:=r
  cases (show T = "int" from ty)
  exact ⟨typeIs_int s i t,fun _ e=>nomatch e⟩
 | ref p =>
  cases r
  rcases ty with ⟨rfl,xs,hq⟩ | ⟨rfl,o,hk,hc,hd⟩ | ⟨rfl,hk⟩ | ⟨rfl,S,n,hk⟩
  ·obtain ⟨its,_,pl,_⟩:=I.list hq
   refine ⟨pl.isList.typeIs,fun a e=>?_⟩
   cases e
   obtain ⟨o,n,e,c,hd,_⟩:=pl
   exact ⟨o,e,hd⟩
  ·refine ⟨⟨o,I.kIn p o hk,hc⟩,fun a e=>?_⟩
   cases e
   exact ⟨o,I.kIn _ o hk,hd⟩
  ·have z:∃ o,s.heap.get? p=some o/\o.ExactDict:=by
    rcases hk with ⟨kvs,hk⟩ | ⟨kvs,hk⟩
    ·obtain ⟨_,_,_,_,o,_,_,e,ex,_⟩:=I.hok p _ hk
     exact ⟨o,e,ex⟩
    ·obtain ⟨_,_,_,_,o,_,_,e,ex,_⟩:=I.hok p _ hk
     exact ⟨o,e,ex⟩
   obtain ⟨o,e,ex⟩:=z
   refine ⟨⟨o,e,ex.1⟩,fun a e2=>?_⟩
   cases e2
   exact ⟨o,e,ex.2.1⟩
  ·obtain ⟨o,_,_,_,e,ex,_⟩:=I.hok p _ hk
   refine ⟨⟨o,e,ex.1⟩,fun a e2=>?_⟩
   cases e2
   exact ⟨o,e,ex.2.1⟩
 | _=>exact False.elim ty
def tBM (K:PySem.W.Frag) (T:String) (r:V->List V->Hp->VK->Prop) (to:TE) (t:TA):TE:=fun σ H Q=>to σ H fun x H1=>tyV K T x H1/\t σ H1 fun xs H2=>r x xs H2 Q
variable {o e:Expr} {es:List Expr} {to:TE} {t:TA} {name:Str} {apos cpos:Pos} {T id:String} {r:V->List V->Hp->VK->Prop}
theorem pe_bm (pa:PlainAttrs T) (slot:Slot T name id) (hty:typeOf (.builtin id)=pure (.type "method_descriptor")) (hm:MtR X id r) (ho:PE X o to) (ha:PA X (e :: es) t)
  (hbase:attributeBase o name X.env (eval o X.env)=eval o X.env:=by rfl)
  (hfew:((backTo cpos (starEach (e :: es) X.env)).all (fun x=>!x.1) && (backToKw cpos (keywordEach [] X.env)).all (fun x=>x.1.isSome)
   && decide ((e :: es).length+([]:List Keyword).length+(if ([]:List Keyword).isEmpty then 0 else 1) < 30))=true:=by rfl)
  (hline:(apos.endLine == cpos.line)=true:=by rfl) (hs:starEach (e :: es) X.env=(false,eval e X.env) :: starEach es X.env:=by rfl) (hplain:(backTo cpos (starEach es X.env)).any (·.1)=false:=by rfl) :
  PE X (.Call (.Attribute o name apos) (e :: es) [] cpos) (tBM X.K T r to t):=by
 intro pins s σ H Q I h
 refine wpAny_Call_method_late hbase hfew hline rfl (thn (ho pins s σ H _ I h) fun v s1 ⟨x,H1,I1,r1,ty,q1⟩=>?_)
 obtain ⟨h1,h2⟩:=tyV_is I1 r1 ty
 refine ⟨T,id,pa,slot,hty,h1,h2,?_⟩
 have hA:=ha cpos pins s1 σ H1 _ I1 q1
 rw [hs] at hA ⊢
 refine Calls.callWith_builtin (by show (false || (backTo cpos (starEach es X.env)).any (·.1))=false; rw [hplain] <;> rfl) (Calls.evalArgs_plain ?_)
 exact thn hA fun us s2 ⟨vs,H2,I2,r2,q2⟩=>hm pins s2 σ H2 x vs v us Q I2 r1 r2 q2
end
end L2
namespace L2
open PySem PySem.Spec PyProof.Rows
def MtM (X:Cx) (id:String) (r:V->List V->Hp->VK->Prop):Prop :=
 ∀ (pins:List (Addr×Obj)) (s:Shared) (σ:St) (H:Hp) (x:V) (xs:List V) (v:Value) (us:List Value) (Q:VK),Inv X pins σ H s->RelV x v->Vals xs us->r x xs H Q ->
  wpAny (model X.prog X.w) X.A (call (.builtin id) (v :: us)) (EP X pins σ Q) X.xe s
theorem Vals.one:∀ {x:V} {us:List Value},Vals [x] us->∃ u,us=[u]/\RelV x u
 | _,_,.cons r .nil=>⟨_,rfl,r⟩
theorem Vals.rep {xs:List V} {us:List Value} (h:Vals xs us):∀ k:Nat,Vals (List.replicate k xs).flatten (List.replicate k us).flatten
 | 0=>.nil
 | k+1=>by
  rw [List.replicate_succ,List.replicate_succ,List.flatten_cons,List.flatten_cons]
  exact Vals.append h (Vals.rep h k)
theorem foldl_rep (its:List Value):∀ (k:Nat) (acc:List Value),
  List.foldl (fun x1 x2=>x1 ++ x2) acc.toArray (List.replicate k its.toArray)=(acc ++ (List.replicate k its).flatten).toArray
 | 0,acc=>by simp
 | k+1,acc=>by
  have e:acc.toArray ++ its.toArray=(acc ++ its).toArray:=by simp
  have e2:(acc ++ its) ++ (List.replicate k its).flatten=acc ++ (List.replicate (k+1) its).flatten:=by
   rw [List.replicate_succ,List.flatten_cons,List.append_assoc]
  rw [← e2,← foldl_rep its k (acc ++ its),← e,List.replicate_succ,List.foldl_cons]
section
variable {X:Cx} {pins:List (Addr×Obj)} {σ:St} {H:Hp} {s:Shared} {l b:Addr} {xs ys zs:List V}
theorem Inv.lset {its its':List Value} {n:Nat} {f:Array Value->Array Value} {t':Nat} (I:Inv X pins σ H s) (hH:H l=some (.lst xs))
  (e:s.heap.get? l=some { cls:=.type "list",data:=.seq its.toArray n }) (hf:f its.toArray=its'.toArray) (hv:Vals ys its') (hz:ys.length<=sizeLine) :
  Inv X pins σ (upd H l (.lst ys)) { s with heap:=s.heap.update l (Obj.mapSeq f),toks:=t' }:=by
 have q:=PySem.IsL.update e f
 rw [hf] at q
 refine I.write (x:=l) (e:=l) (by rw [hH]; exact trivial) (.inl rfl) (fun b' u hb hu=>(Heap.get?_update_other s.heap (Obj.mapSeq f) (Ne.symm hb)).trans hu) ⟨_,q⟩ ?_
 exact ⟨hz,its',_,hv,q⟩
theorem Inv.lnew {its:List Value} {t':Nat} (I:Inv X pins σ H s) (hv:Vals ys its) (hz:ys.length<=sizeLine) :
  Inv X pins σ (upd H s.heap.objs.size (.lst ys)) { s with heap:=s.heap.push { cls:=.type "list",data:=.seq its.toArray },toks:=t' } :=
 I.laid (fun _ _ q=>Heap.get?_push_of_some _ q) (Nat.le_refl _) ⟨hz,its,0,hv,Heap.get?_push_size _ rfl⟩
theorem Inv.fresh (I:Inv X pins σ H s):H s.heap.objs.size=none:=I.hok.fresh (Nat.le_refl _)
theorem Inv.lstM (I:Inv X pins σ H s) (hH:H l=some (.lst xs)):xs.length<=sizeLine/\∃ (its:List Value) (n:Nat),Vals xs its/\xs.length=its.length/\s.heap.get? l=some { cls:=.type "list",data:=.seq its.toArray n }:=by
 obtain ⟨z,its,n,r,e⟩:=I.hok l _ hH
 exact ⟨z,its,n,r,r.length,e⟩
theorem notLongL {n:Nat} (h:n<=sizeLine):Builtin.List.listTooLong n=false:=by
 unfold Builtin.List.listTooLong
 exact decide_eq_false (by omega)
end
section
variable {X:Cx}
def rAppend:V->List V->Hp->VK->Prop:=fun x vs H Q=>∃ l xs y,x=.ref l/\vs=[y]/\H l=some (.lst xs)/\xs.length < sizeLine/\Q .non (upd H l (.lst (xs ++ [y])))
theorem mt_append:MtM X "list.append" rAppend:=by
 intro pins s σ H x vs v us Q I rx rv h
 obtain ⟨l,xs,y,rfl,rfl,hH,hz,q⟩:=h
 cases rx
 obtain ⟨u,rfl,ru⟩:=rv.one
 obtain ⟨z,its,n,r,hl,e⟩:=I.lstM hH
 refine call_meets F.slot_list_append ⟨_,e,rfl⟩ F.entry_list_append (F.args_list_append_2 _ _) (PySem.list_append l its.toArray n u (by rw [List.size_toArray]; omega)) ⟨e,?_⟩
 refine ⟨.non,_,I.lset (its':=its ++ [u]) hH e (by simp) (r.append (.cons ru .nil)) ?_,rfl,q⟩
 rw [List.length_append,List.length_singleton]
 omega
def rExtend:V->List V->Hp->VK->Prop:=fun x vs H Q=>∃ l b xs zs,x=.ref l/\vs=[.ref b]/\H l=some (.lst xs)/\H b=some (.lst zs)/\xs.length+zs.length<=sizeLine/\Q .non (upd H l (.lst (xs ++ zs)))
theorem mt_extend:MtM X "list.extend" rExtend:=by
 intro pins s σ H x vs v us Q I rx rv h
 obtain ⟨l,b,xs,zs,rfl,rfl,hH,hB,hz,q⟩:=h
 cases rx
 obtain ⟨u,rfl,ru⟩:=rv.one
 cases ru
 obtain ⟨z,its,n,r,hl,e⟩:=I.lstM hH
 obtain ⟨z2,its2,n2,r2,hl2,e2⟩:=I.lstM hB
 have hsz:its.toArray.size+its2.toArray.size<=sizeLine:=by rw [List.size_toArray,List.size_toArray]; omega
 have hlong:¬ (!its.toArray.isEmpty && Builtin.List.listTooLong (its.toArray.size+its2.toArray.size))=true:=by
  rw [notLongL hsz,Bool.and_false]
  exact Bool.false_ne_true
 refine call_meets F.slot_list_extend ⟨_,e,rfl⟩ F.entry_list_extend (F.args_list_extend_2 _ _)
  (AutoSeq1.list_extend_list_list_0 l its.toArray n b its2.toArray n2 hlong (by rw [List.size_toArray]; omega) (by omega)) ⟨e,e2,?_⟩
 refine ⟨.non,_,I.lset (its':=its ++ its2) hH e (by simp) (r.append r2) ?_,rfl,q⟩
 rw [List.length_append]
 omega
def rCat:R2:=fun x y H Q=>∃ l b xs zs,x=.ref l/\y=.ref b/\H l=some (.lst xs)/\H b=some (.lst zs)/\xs.length+zs.length<=sizeLine/\∀ p,H p=none->Q (.ref p) (upd H p (.lst (xs ++ zs)))
theorem op_cat:OpR X (binaryOp .Add) rCat:=by
 intro pins s σ H x y v u Q I rx ry h
 obtain ⟨l,b,xs,zs,rfl,rfl,hH,hB,hz,q⟩:=h
 cases rx
 cases ry
 obtain ⟨z,its,n,r,hl,e⟩:=I.lstM hH
 obtain ⟨z2,its2,n2,r2,hl2,e2⟩:=I.lstM hB
 refine PySem.P.add_list e e2 ?_ (by rw [List.size_toArray,List.size_toArray]; omega)
 have ea:its.toArray ++ its2.toArray=(its ++ its2).toArray:=by simp
 rw [ea]
 exact ⟨.ref _,_,I.lnew (t':=s.toks) (r.append r2) (by rw [List.length_append]; omega),rfl,q _ I.fresh⟩
def rRep:R2:=fun x y H Q=>∃ l k xs,x=.ref l/\y=.int k/\H l=some (.lst xs)/\-(2 ^ 63)<=k/\k < 2 ^ 63/\xs.length*k.toNat<=sizeLine /\
 ∀ p,H p=none->Q (.ref p) (upd H p (.lst (List.replicate k.toNat xs).flatten))
theorem len_rep {α:Type} (xs:List α) (k:Nat):(List.replicate k xs).flatten.length=k*xs.length:=by
 induction k with
 | zero=>simp
 | succ k ih=>rw [List.replicate_succ,List.flatten_cons,List.length_append,ih,Nat.succ_mul,Nat.add_comm]
theorem op_rep:OpR X (binaryOp .Mult) rRep:=by
 intro pins s σ H x y v u Q I rx ry h
 obtain ⟨l,k,xs,rfl,rfl,hH,h1,h2,hz,q⟩:=h
 cases rx
 obtain ⟨t,rfl⟩:=ry
 obtain ⟨z,its,n,r,hl,e⟩:=I.lstM hH
 have hlen:its.toArray.size*k.toNat<=sizeLine:=by rw [List.size_toArray,← hl]; exact hz
 have hcap:¬ its.toArray.size*k.toNat > (2 ^ 63 - 1) / 8:=by
  have:(sizeLine:Nat)<=(2 ^ 63 - 1) / 8:=by decide
  omega
 have hfit:¬ (!Builtin.List.listFitsIndex k)=true:=by
  rw [fitsIndex_both h1 h2]
  exact Bool.false_ne_true
 have hlong:¬ Builtin.List.listTooLong (its.toArray.size*k.toNat)=true:=by
  rw [notLongL hlen]
  exact Bool.false_ne_true
 have hnew:List.foldl (fun x1 x2=>x1 ++ x2) #[] (List.replicate (if its.toArray.isEmpty=true then 0 else k.toNat) its.toArray)=(List.replicate k.toNat its).flatten.toArray:=by
  have f0:∀ m:Nat,List.foldl (fun x1 x2=>x1 ++ x2) #[] (List.replicate m its.toArray)=(List.replicate m its).flatten.toArray:=fun m=>by
   have:=foldl_rep its m []
   rw [List.nil_append] at this
   exact this
  rw [f0]
  cases its with
  | nil=>simp
  | cons a r'=>rw [if_neg (by simp)]
 refine wpAny_binaryOp_repeat_ref (T:="list") (U:="int") (by decide) ⟨_,e,rfl⟩ (fun s'=>typeIs_int s' k t) noFill_list_mul F.fills_int_mul F.slot_int_rmul repeat_list F.slot_int_index.lookup
  (call_meets F.slot_int_rmul (typeIs_int s k t) F.entry_int_rmul (F.args_int_rmul_2 _ _) (int___rmul___int_list k t l its.toArray n)
   ⟨e,rfl,⟨_,e,rfl⟩,call_meets F.slot_list_mul ⟨_,e,rfl⟩ F.entry_list_mul (F.args_list_mul_2 _ _) (AutoListH.list___mul___list_int_3 l its.toArray n k t hfit hcap hlong) ⟨e,?_⟩⟩)
 rw [hnew]
 exact ⟨.ref _,_,I.lnew (t':=s.toks) (r.rep k.toNat) (by rw [len_rep,Nat.mul_comm]; exact hz),rfl,q _ I.fresh⟩
end
end L2
namespace L2
open PySem PySem.Spec PyProof.Rows
theorem Vals.bls:∀ {bs:List Bool} {us:List Value},Vals (bs.map V.bl) us->us=bs.map Value.bool
 | [],us,h=>by
  rw [List.map_nil] at h
  cases h
  rfl
 | b :: bs,us,h=>by
  rw [List.map_cons] at h
  cases h with
  | cons r t =>
   cases r
   rw [Vals.bls t,List.map_cons]
theorem Vals.ref1 {a:Addr} {us:List Value} (r:Vals [V.ref a] us):us=[Value.ref a]:=by
 cases r with
 | cons r t =>
  cases t
  cases r
  rfl
theorem iter_any {prog:Program} {w:World} {A:Around} {E:Value->Shared->Prop} {s:Shared} {l:Addr} {items:Array Value} {Q:Value->Shared->Prop} (hl:s.heap.IsList l items)
  (h:∀ s₂:Shared,s₂ = { s with heap:=s.heap.push { cls:=.type "list_iterator",data:=.fields #[.ref l,.int 0 0] } } ->
   (s₂.heap.IsListIter s.heap.objs.size l 0/\s₂.heap.IsList l items)->l≠s.heap.objs.size->Q (.ref s.heap.objs.size) s₂):wpAny (model prog w) A (pyIter (.ref l)) Q E s:=by
 have hlt:l < s.heap.objs.size:=by obtain ⟨_,e,_⟩:=hl; exact Heap.lt_size e
 exact wpAny_pyIter_list hl (h _ rfl ⟨⟨_,Heap.get?_push_size _ rfl,rfl,rfl⟩,hl.push _⟩ (Nat.ne_of_lt hlt))
theorem truth_bools {prog:Program} {w:World} {A:Around} {bs:List Bool} {its:List Value} (e:its=bs.map Value.bool) :
  TruthOf prog w A (fun i v=>its.toArray[i]? = some v) (fun i=>bs.getD i false):=fun i v s Q E hv hq=>by
 have hv':its[i]? = some v:=by simpa using hv
 rw [e,List.getElem?_map] at hv'
 obtain ⟨b,hb,rfl⟩:=Option.map_eq_some_iff.mp hv'
 have hg:bs.getD i false=b:=by rw [List.getD_eq_getElem?_getD,hb] <;> rfl
 have hq':Q (bs.getD i false) s:=hq
 rw [hg] at hq'
 exact wpAny_truthy_bool hq'
theorem any_range:∀ bs:List Bool,(List.range bs.length).any (fun i=>bs.getD i false)=bs.any id
 | []=>rfl
 | b :: bs=>by
  rw [List.length_cons,List.range_succ_eq_map,List.any_cons,List.any_map,List.any_cons,← any_range bs]
  all_goals rfl
theorem all_range:∀ bs:List Bool,(List.range bs.length).all (fun i=>bs.getD i false)=bs.all id
 | []=>rfl
 | b :: bs=>by
  rw [List.length_cons,List.range_succ_eq_map,List.all_cons,List.all_map,List.all_cons,← all_range bs]
  all_goals rfl
section
variable {X:Cx}
def rAny (K:PySem.W.Frag):List V->Hp->VK->Prop:=fun vs H Q=>∃ (a:Addr) (bs:List Bool),vs=[V.ref a]/\SqL K H a (bs.map V.bl)/\Q (.bl (bs.any id)) H
def rAll (K:PySem.W.Frag):List V->Hp->VK->Prop:=fun vs H Q=>∃ (a:Addr) (bs:List Bool),vs=[V.ref a]/\SqL K H a (bs.map V.bl)/\Q (.bl (bs.all id)) H
theorem cr_any (hc:X.calm=true):CallR X (.builtin "any") (rAny X.K):=by
 intro pins s σ H vs us Q I r h
 obtain ⟨a,bs,rfl,hs,q⟩:=h
 obtain ⟨its,rv,hl,_⟩:=I.list hs
 rw [Vals.ref1 r]
 have hb:=rv.bls
 refine call_any_walk (iter_any hl.isList fun s₂ e2 st hne=>?_)
 subst e2
 refine ⟨_,_,_,_,_,_,_,rfl,Walks.list (A:=X.A.in1) (I.ok.hd hc) _ a hne its.toArray,st,truth_bools hb,fun h' tk hk=>?_⟩
 refine ⟨.bl _,H,I.kept fun b o eo=>hk b o (fun hmem=>?_) (Heap.get?_push_of_some _ eo),?_,q⟩
 ·rcases List.mem_cons.mp hmem with e1 | hmem
  ·exact absurd (e1 ▸ Heap.lt_size eo) (Nat.lt_irrefl _)
  ·cases hmem
 ·show Value.bool _=Value.bool _
  rw [← any_range,hb,List.size_toArray,List.length_map]
theorem cr_all (hc:X.calm=true):CallR X (.builtin "all") (rAll X.K):=by
 intro pins s σ H vs us Q I r h
 obtain ⟨a,bs,rfl,hs,q⟩:=h
 obtain ⟨its,rv,hl,_⟩:=I.list hs
 rw [Vals.ref1 r]
 have hb:=rv.bls
 refine call_all_walk (iter_any hl.isList fun s₂ e2 st hne=>?_)
 subst e2
 refine ⟨_,_,_,_,_,_,_,rfl,Walks.list (A:=X.A.in1) (I.ok.hd hc) _ a hne its.toArray,st,truth_bools hb,fun h' tk hk=>?_⟩
 refine ⟨.bl _,H,I.kept fun b o eo=>hk b o (fun hmem=>?_) (Heap.get?_push_of_some _ eo),?_,q⟩
 ·rcases List.mem_cons.mp hmem with e1 | hmem
  ·exact absurd (e1 ▸ Heap.lt_size eo) (Nat.lt_irrefl _)
  ·cases hmem
 ·show Value.bool _=Value.bool _
  rw [← all_range,hb,List.size_toArray,List.length_map]
end
mutual
inductive Dp (K:PySem.W.Frag) (H:Hp):V->PyData->Prop
 | non:Dp K H .non .none
 | bl (b:Bool):Dp K H (.bl b) (.bool b)
 | int (i:Int):Dp K H (.int i) (.int i)
 | str (x:Str):Dp K H (.str x) (.str x)
 | lst {a:Addr} {xs:List V} {ds:List PyData}:SqL K H a xs->DpAll K H xs ds->Dp K H (.ref a) (.list ds)
 | tup {a:Addr} {xs:List V} {ds:List PyData}:SqT K H a xs->DpAll K H xs ds->Dp K H (.ref a) (.tuple ds)
inductive DpAll (K:PySem.W.Frag) (H:Hp):List V->List PyData->Prop
 | nil:DpAll K H [] []
 | cons {v:V} {vs:List V} {d:PyData} {ds:List PyData}:Dp K H v d->DpAll K H vs ds->DpAll K H (v :: vs) (d :: ds)
end
section
variable {X:Cx} {pins:List (Addr×Obj)} {σ:St} {H:Hp} {s:Shared}
mutual
theorem Dp.reads (I:Inv X pins σ H s):∀ (d:PyData) (v:V) (u:Value),Dp X.K H v d->RelV v u->∃ as,Reads s.heap u d as
 | .none,_,_,h,r=>by
  cases h
  cases r
  exact ⟨_,Reads.none⟩
 | .bool b,_,_,h,r=>by
  cases h
  cases r
  exact ⟨_,Reads.bool b⟩
 | .int i,_,_,h,r=>by
  cases h
  obtain ⟨t,rfl⟩:=r
  exact ⟨_,Reads.int i t⟩
 | .str x,_,_,h,r=>by
  cases h
  obtain ⟨t,rfl⟩:=r
  exact ⟨_,Reads.str x t⟩
 | .list ds,_,_,h,r=>by
  cases h with
  | lst hs ha =>
   cases r
   obtain ⟨its,rv,⟨o,n,ho,hc,_,hd⟩,_⟩:=I.list hs
   obtain ⟨as,hr⟩:=Dp.readsAll I ds _ its ha rv
   exact ⟨_,Reads.list ho hc hd hr⟩
 | .tuple ds,_,_,h,r=>by
  cases h with
  | tup hs ha =>
   cases r
   obtain ⟨its,rv,⟨o,ho,hc,n,hd⟩,_⟩:=I.tuple hs
   obtain ⟨as,hr⟩:=Dp.readsAll I ds _ its ha rv
   exact ⟨_,Reads.tuple ho hc hd hr⟩
 | .dict _,_,_,h,_=>by cases h
theorem Dp.readsAll (I:Inv X pins σ H s):∀ (ds:List PyData) (vs:List V) (us:List Value),DpAll X.K H vs ds->Vals vs us->∃ as,ReadsAll s.heap us ds as
 | [],_,_,h,r=>by
  cases h
  cases r
  exact ⟨_,ReadsAll.nil⟩
 | d :: ds,_,_,h,r=>by
  cases h with
  | cons h1 h2 =>
   cases r with
   | cons r1 r2 =>
    obtain ⟨as,q1⟩:=Dp.reads I d _ _ h1 r1
    obtain ⟨bs,q2⟩:=Dp.readsAll I ds _ _ h2 r2
    exact ⟨_,ReadsAll.cons q1 q2⟩
end
end
end L2
namespace L2
open PySem PySem.Spec PyProof.Rows
abbrev CellAt (h:Heap) (c:Addr) (v:Option Value):Prop:=h.IsCell c v
def relS (scope sc:Scope):Scope :=
 { scope with names:=scope.names.map fun (n,k)=>if (k == .free && sc.kind == .function && sc.names.lookup n == some .cell) then (n,.cell) else (n,k) }
def cloFrom (cells:List (Str×Addr)):List (Str×NameKind)->List (Str×Addr)->List (Str×Addr)
 | [],acc=>acc
 | (n,k) :: r,acc=>if k == .free then cloFrom cells r ((n,(cells.lookup n).getD 0) :: acc) else cloFrom cells r acc
theorem closure_loop (env:Env) (f:Str×NameKind->List (Str×Addr)->Sem (ForInStep (List (Str×Addr))))
  (hf:∀ n k c,f (n,k) c=if k == .free then (do let a ← cellOf env n; pure (.yield ((n,a) :: c))) else pure (.yield c)) :
  ∀ (names:List (Str×NameKind)) (acc:List (Str×Addr)),(∀ y∈names,y.2=.free->∃ c,env.cells.lookup y.1=some c)->forIn names acc f=pure (cloFrom env.cells names acc)
 | [],acc,_=>by rw [List.forIn_nil]; rfl
 | (n,k) :: r,acc,h=>by
  rw [List.forIn_cons,hf]
  have ih:=fun acc=>closure_loop env f hf r acc fun y hy=>h y (List.mem_cons_of_mem _ hy)
  unfold cloFrom
  by_cases hk:(k == NameKind.free)=true
  ·rw [if_pos hk,if_pos hk]
   obtain ⟨c,hc⟩:=h (n,k) List.mem_cons_self (by simpa using hk)
   have e:cellOf env n=pure c:=by unfold cellOf; rw [hc]
   rw [e]
   have e2:(env.cells.lookup n).getD 0=c:=by rw [hc]; rfl
   rw [e2]
   exact ih _
  ·rw [if_neg hk,if_neg hk]
   exact ih _
theorem closure_ok {scope:Scope} {env:Env} (h:∀ y∈scope.names,y.2=.free->∃ c,env.cells.lookup y.1=some c):closureFor scope env=pure (cloFrom env.cells scope.names []):=by
 simp only [closureFor]
 rw [closure_loop env _ (fun n k c=>rfl) scope.names [] h]
 rfl
theorem mem_lookup {α:Type}:∀ {l:List (Str×α)} {n:Str} {c:α},(n,c)∈l->∃ c',l.lookup n=some c'
 | (k,v) :: r,n,c,h=>by
  rw [List.lookup_cons]
  cases hb:n == k with
  | true=>exact ⟨_,rfl⟩
  | false =>
   rcases List.mem_cons.mp h with e | h
   ·cases e; simp at hb
   ·exact mem_lookup h
theorem cloFrom_mem {cells:List (Str×Addr)}:∀ {names:List (Str×NameKind)} {acc:List (Str×Addr)} {n:Str} {c:Addr},(n,c)∈cloFrom cells names acc->(n,c)∈acc\/((n,.free)∈names/\c=(cells.lookup n).getD 0)
 | [],_,_,_,h=>.inl h
 | (m, k) :: r, acc, n, c, h => by
   unfold cloFrom at h
   split at h
   · rename_i hk
     have hk:k=.free:=by simpa using hk
     rcases cloFrom_mem h with h | ⟨h1,h2⟩
     · rcases List.mem_cons.mp h with e | h
       · cases e; exact .inr ⟨hk ▸ List.mem_cons_self,rfl⟩
       · exact .inl h
     · exact .inr ⟨List.mem_cons_of_mem _ h1,h2⟩
   · rcases cloFrom_mem h with h | ⟨h1,h2⟩
     · exact .inl h
     · exact .inr ⟨List.mem_cons_of_mem _ h1,h2⟩
theorem cloFrom_acc {cells:List (Str×Addr)}:∀ {names:List (Str×NameKind)} {acc:List (Str×Addr)} {p:Str×Addr},p∈acc->p∈cloFrom cells names acc
 | [],_,_,h=>h
 | (m,k) :: r,acc,p,h=>by
  unfold cloFrom
  split
  ·exact cloFrom_acc (List.mem_cons_of_mem _ h)
  ·exact cloFrom_acc h
theorem cloFrom_has {cells:List (Str×Addr)}:∀ {names:List (Str×NameKind)} {acc:List (Str×Addr)} {n:Str},(n,.free)∈names->(n,(cells.lookup n).getD 0)∈cloFrom cells names acc
 | (m,k) :: r,acc,n,h=>by
  unfold cloFrom
  rcases List.mem_cons.mp h with e | h
  ·cases e
   exact cloFrom_acc List.mem_cons_self
  ·split
   ·exact cloFrom_has h
   ·exact cloFrom_has h
theorem cells_mem:∀ {names:List (Str×NameKind)} {h:Heap} {acc:List (Str×Addr)} {x:Str} {c:Addr},(x,c)∈cellsFrom h.objs.size names acc ->
  (x,c)∈acc\/((x,.cell)∈names/\h.objs.size<=c/\CellAt (pushCells h names) c none)
 | [],_,_,_,_,h=>.inl h
 | (n, k) :: r, h, acc, x, c, hm => by
   unfold cellsFrom at hm
   unfold pushCells
   split at hm
   · rename_i hk
     rw [if_pos hk]
     have hk:k=.cell:=by simpa using hk
     rw [← Heap.size_push h { cls:=.type "cell",data:=.cell none }] at hm
     rcases cells_mem hm with hm | ⟨h1,h2,h3⟩
     · rcases List.mem_cons.mp hm with e | hm
       · cases e
         exact .inr ⟨hk ▸ List.mem_cons_self,Nat.le_refl _,_,pushCells_keeps r _ _ _ (Heap.get?_push_size _ rfl),rfl⟩
       · exact .inl hm
     · rw [Heap.size_push] at h2
       exact .inr ⟨List.mem_cons_of_mem _ h1,Nat.le_of_succ_le h2,h3⟩
   · rename_i hk
     rw [if_neg hk]
     rcases cells_mem hm with hm | ⟨h1,h2,h3⟩
     · exact .inl hm
     · exact .inr ⟨List.mem_cons_of_mem _ h1,h2,h3⟩
theorem cells_acc:∀ {names:List (Str×NameKind)} {n:Nat} {acc:List (Str×Addr)} {p:Str×Addr},p∈acc->p∈cellsFrom n names acc
 | [],_,_,_,h=>h
 | (m,k) :: r,n,acc,p,h=>by
  unfold cellsFrom
  split
  ·exact cells_acc (List.mem_cons_of_mem _ h)
  ·exact cells_acc h
theorem cells_has:∀ {names:List (Str×NameKind)} {n:Nat} {acc:List (Str×Addr)} {x:Str},(x,.cell)∈names->∃ c,(x,c)∈cellsFrom n names acc
 | (m,k) :: r,n,acc,x,h=>by
  unfold cellsFrom
  rcases List.mem_cons.mp h with e | h
  ·cases e
   exact ⟨n,cells_acc List.mem_cons_self⟩
  ·split
   ·exact cells_has h
   ·exact cells_has h
theorem cells_inj:∀ {names:List (Str×NameKind)} {h:Heap} {acc:List (Str×Addr)} {x y:Str} {c:Addr},(∀ p∈acc,p.2 < h.objs.size)->(∀ x y c,(x,c)∈acc->(y,c)∈acc->x=y) ->
  (x,c)∈cellsFrom h.objs.size names acc->(y,c)∈cellsFrom h.objs.size names acc->x=y
 | [],_,_,_,_,_,_,hi,h1,h2=>hi _ _ _ h1 h2
 | (n, k) :: r, h, acc, x, y, c, hl, hi, h1, h2 => by
   unfold cellsFrom at h1 h2
   split at h1
   · rename_i hk
     rw [if_pos hk] at h2
     rw [← Heap.size_push h { cls:=.type "cell",data:=.cell none }] at h1 h2
     refine cells_inj (h:=h.push _) (fun p hp=>?_) (fun x y c a b=>?_) h1 h2
     · rw [Heap.size_push]
       rcases List.mem_cons.mp hp with rfl | hp
       · exact Nat.lt_succ_self _
       · exact Nat.lt_succ_of_lt (hl p hp)
     · rcases List.mem_cons.mp a with e | a <;> rcases List.mem_cons.mp b with e' | b
       · cases e; cases e'; rfl
       · cases e; exact absurd (hl _ b) (Nat.lt_irrefl _)
       · cases e'; exact absurd (hl _ a) (Nat.lt_irrefl _)
       · exact hi _ _ _ a b
   · rename_i hk
     rw [if_neg hk] at h2
     exact cells_inj hl hi h1 h2
theorem newEnv_comp {M:Model} {A:Around} {E:Value->Shared->Prop} {s:Shared} {scope:Scope} {globals:Addr} {closure:List (Str×Addr)} {qual:Str} {func:Option Addr} {code:Value} {around:Env} {builtins:Addr} {Q:Env->Shared->Prop}
  (h:Q (newEnv scope s.heap.objs.size globals (cellsFrom (s.heap.objs.size+1) scope.names closure) qual func code (some around) builtins)
   { s with heap:=pushCells (s.heap.push { cls:=.type "dict",data:=.dict #[] }) scope.names }) :
  wpAny M A (newFunctionEnv scope globals closure [] qual func code (some around) builtins) Q E s:=by
 simp only [newFunctionEnv,Option.isSome_some,if_true]
 refine wpAny_bind (wpAny_alloc ?_)
 refine wpAny_bind (wpAny_layCells _ (fun n k c=>rfl) scope.names closure _ _ ?_)
 rw [show ({ s with heap:=s.heap.push { cls:=.type "dict",data:=.dict #[] } }:Shared).heap.objs.size=s.heap.objs.size+1 from Heap.size_push ..]
 rw [List.forIn_nil]
 exact wpAny_bind (wpAny_pure (wpAny_pure h))
theorem lookup_relS {sc:Scope}:∀ {names:List (Str×NameKind)} {x:Str} {k:NameKind},
  (names.map fun (n,k)=>if (k == NameKind.free && sc.kind == .function && sc.names.lookup n == some .cell) then (n,NameKind.cell) else (n,k)).lookup x=some k ->
  ∃ k',names.lookup x=some k'/\(k=k'\/(k'=.free/\k=.cell))
 | [],_,_,h=>by simp at h
 | (n, k₀) :: r, x, k, h => by
   have ih:=@lookup_relS sc r x k
   have h':List.lookup x ((if (k₀ == NameKind.free && sc.kind == .function && sc.names.lookup n == some .cell)=true then (n,NameKind.cell) else (n,k₀)) :: (r.map _))=some k:=h
   cases hx:x == n with
   | true =>
     simp only [List.lookup_cons,hx]
     by_cases hc:(k₀ == NameKind.free && sc.kind == .function && sc.names.lookup n == some .cell)=true
     · rw [if_pos hc] at h'
       simp only [List.lookup_cons,hx] at h'
       cases h'
       simp only [Bool.and_eq_true,beq_iff_eq] at hc
       exact ⟨k₀,rfl,.inr ⟨hc.1.1,rfl⟩⟩
     · rw [if_neg hc] at h'
       simp only [List.lookup_cons,hx] at h'
       cases h'
       exact ⟨_,rfl,.inl rfl⟩
   | false =>
     simp only [List.lookup_cons,hx]
     by_cases hc:(k₀ == NameKind.free && sc.kind == .function && sc.names.lookup n == some .cell)=true
     · rw [if_pos hc] at h'
       simp only [List.lookup_cons,hx] at h'
       exact ih h'
     · rw [if_neg hc] at h'
       simp only [List.lookup_cons,hx] at h'
       exact ih h'
structure BlkOk (N:List Str) (sc scope:Scope) (own:List (Str×Nat)):Prop where
 kind:scope.kind=.function
 uniq:∀ y∈scope.names,scope.names.lookup y.1=some y.2
 ix:∀ p∈own,N[p.2]? = some p.1
 free:∀ y∈scope.names,y.2=.free->sc.names.lookup y.1=some .cell\/sc.names.lookup y.1=some .free
 own:∀ y∈scope.names,y.2=.local\/y.2=.cell->y.1∈own.map (·.1)\/y.1 ∉ N
def wipe (σ:St):List Nat->St
 | []=>σ
 | v :: vs=>(wipe σ vs).set v none
theorem wipe_length (σ:St):∀ vs:List Nat,(wipe σ vs).length = σ.length
 | []=>rfl
 | v :: vs=>by unfold wipe; rw [List.length_set,wipe_length σ vs]
theorem wipe_some {σ:St} {i:Nat} {x:V}:∀ {vs:List Nat},(wipe σ vs)[i]? = some (some x)->σ[i]? = some (some x)/\i ∉ vs
 | [],h=>⟨h,by simp⟩
 | v :: vs,h=>by
  unfold wipe at h
  by_cases hi:v=i
  ·subst hi
   by_cases hv:v < (wipe σ vs).length
   ·rw [List.getElem?_set_self hv] at h; cases h
   ·rw [List.getElem?_eq_none (by simpa using hv)] at h; cases h
  ·rw [List.getElem?_set_ne hi] at h
   obtain ⟨h1,h2⟩:=wipe_some h
   exact ⟨h1,by simp only [List.mem_cons,not_or]; exact ⟨fun e=>hi e.symm,h2⟩⟩
abbrev Cx.blk (X:Cx) (s:Shared) (H:Hp) (scope:Scope) (cenv:Env) (fp:List Addr):Cx:={ X with s_0:=s,H_0:=H,env:=cenv,outer:=X.stack,ex:=fp,fn:=fun x=>scope.names.lookup x == some .cell,pn:=[],xe:=fun _ _=>False }
section
variable {X:Cx} {pins:List (Addr×Obj)} {σ:St} {H:Hp} {s:Shared}
theorem block_start {scope:Scope} {own:List (Str×Nat)} {fp:List Addr} (I:Inv X pins σ H s) (ok:BlkOk X.N X.env.scope scope own) (hN:X.N.Nodup) (hfp:∀ b∈fp,FpOk X pins H b/\b < s.heap.objs.size) :
  Inv (X.blk s H scope (compEnvC scope (cellsFrom (s.heap.objs.size+1) scope.names (cloFrom X.env.cells scope.names [])) s.heap.objs.size X.env) fp) [] (wipe σ (own.map (·.2))) H { s with heap:=pushCells (s.heap.push { cls:=.type "dict",data:=.dict #[] }) scope.names }:=by
 have hfree:∀ y∈scope.names,y.2=.free->∃ c,X.env.cells.lookup y.1=some c:=fun y hy e=>by
  rcases ok.free y hy e with k | k
  ·exact I.ok.has _ (.inl k)
  ·exact I.ok.has _ (.inr k)
 generalize hcenv:compEnvC scope (cellsFrom (s.heap.objs.size+1) scope.names (cloFrom X.env.cells scope.names [])) s.heap.objs.size X.env=cenv
 have kp:∀ b o,s.heap.get? b=some o->(pushCells (s.heap.push { cls:=.type "dict",data:=.dict #[] }) scope.names).get? b=some o:=fun b o e=>pushCells_keeps _ _ _ _ (Heap.get?_push_of_some _ e)
 have hL:cenv.locals=s.heap.objs.size:=by rw [← hcenv]; rfl
 have hcl:cenv.cells=cellsFrom (s.heap.objs.size+1) scope.names (cloFrom X.env.cells scope.names []):=by rw [← hcenv]; rfl
 have hsc:cenv.scope=relS scope X.env.scope:=by rw [← hcenv]; rfl
 rw [← Heap.size_push s.heap { cls:=.type "dict",data:=.dict #[] }] at hcl
 have cm:∀ {y c},(y,c)∈cloFrom X.env.cells scope.names []->X.env.cells.lookup y=some c/\c < s.heap.objs.size:=fun {y c} hm=>by
  rcases cloFrom_mem hm with hm | ⟨h1,rfl⟩
  ·cases hm
  ·obtain ⟨c,hc⟩:=hfree _ h1 rfl
   rw [hc]
   obtain ⟨w,z⟩:=I.cell _ _ hc
   exact ⟨rfl,z.lt⟩
 have mem:∀ {y c},cenv.cells.lookup y=some c->(X.env.cells.lookup y=some c/\c < s.heap.objs.size)\/(s.heap.objs.size+1<=c/\CellAt (pushCells (s.heap.push { cls:=.type "dict",data:=.dict #[] }) scope.names) c none):=fun {y c} e=>by
  rw [hcl] at e
  rcases cells_mem (PySem.mem_of_lookup e) with hm | ⟨_,h2,h3⟩
  ·exact .inl (cm hm)
  ·rw [Heap.size_push] at h2; exact .inr ⟨h2,h3⟩
 have look:∀ {y},scope.names.lookup y=some .free->∃ c,cenv.cells.lookup y=some c/\X.env.cells.lookup y=some c:=fun {y} hl=>by
  have hy:(y,NameKind.free)∈scope.names:=PySem.mem_of_lookup hl
  obtain ⟨c',e'⟩:=mem_lookup (cells_acc (names:=scope.names) (n:=(s.heap.push { cls:=.type "dict",data:=.dict #[] }).objs.size) (cloFrom_has (cells:=X.env.cells) (acc:=[]) hy))
  rw [← hcl] at e'
  refine ⟨c',e',?_⟩
  rw [hcl] at e'
  rcases cells_mem (PySem.mem_of_lookup e') with hm | ⟨h1,_,_⟩
  ·exact (cm hm).1
  ·have:=ok.uniq _ h1
   rw [hl] at this; cases this
 have okB:(X.blk s H scope cenv fp).Ok:=by
  refine ⟨I.ok.mod,by show cenv.scope.kind=_; rw [hsc]; exact ok.kind,by show cenv.globals=_; rw [← hcenv]; exact I.ok.glob,by show cenv.builtins=_; rw [← hcenv]; exact I.ok.blt,by show s.heap.objs.size<=cenv.locals; rw [hL]; exact Nat.le_refl _,
   fun y z c e1 e2=>?_,fun y hy=>?_,fun y c z e=>?_,I.ok.hd,I.ok.frames,.inl rfl,fun b hb=>⟨?_,fun y c e z=>?_⟩,I.bs,Nat.le_trans I.ok.bsz I.sz,fun b o e hb=>?_,fun b hb z=>?_,I.stack,I.stkFree⟩
  ·have e1:cenv.cells.lookup y=some c:=e1
   have e2:cenv.cells.lookup z=some c:=e2
   rw [hcl] at e1 e2
   refine cells_inj (fun p hp=>?_) (fun y z c a b=>I.ok.inj y z c (cm a).1 (cm b).1) (PySem.mem_of_lookup e1) (PySem.mem_of_lookup e2)
   rw [Heap.size_push]
   exact Nat.lt_succ_of_lt (cm (y:=p.1) (c:=p.2) hp).2
  ·show ∃ c,cenv.cells.lookup y=some c
   have key:∀ k,cenv.kindOf y=some k->(k=.cell\/k=.free)->∃ c,cenv.cells.lookup y=some c:=fun k hk hk'=>by
    unfold Env.kindOf at hk
    rw [hsc] at hk
    obtain ⟨k',e,r⟩:=lookup_relS hk
    have:k'=.cell\/k'=.free:=by
     rcases r with rfl | ⟨rfl,_⟩
     ·exact hk'
     ·exact .inr rfl
    rcases this with rfl | rfl
    ·obtain ⟨c,hm⟩:=cells_has (n:=(s.heap.push { cls:=.type "dict",data:=.dict #[] }).objs.size) (acc:=cloFrom X.env.cells scope.names []) (PySem.mem_of_lookup e)
     obtain ⟨c',e'⟩:=mem_lookup hm
     exact ⟨c',by rw [hcl]; exact e'⟩
    ·obtain ⟨c,h1,_⟩:=look e
     exact ⟨c,h1⟩
   rcases hy with hy | hy
   ·exact key _ hy (.inl rfl)
   ·exact key _ hy (.inr rfl)
  ·have z:(scope.names.lookup y == some NameKind.cell)=true:=z
   have z:scope.names.lookup y=some .cell:=by simpa using z
   have e:cenv.cells.lookup y=some c:=e
   rw [hcl] at e
   rcases cells_mem (PySem.mem_of_lookup e) with hm | ⟨_,h2,_⟩
   ·rcases cloFrom_mem hm with hm | ⟨h1,_⟩
    ·cases hm
    ·have q:=ok.uniq _ h1
     rw [z] at q; cases q
   ·rw [Heap.size_push] at h2
    exact Nat.le_of_succ_le h2
  ·show b≠cenv.locals
   rw [hL]; exact Nat.ne_of_lt (hfp b hb).2
  ·have e:cenv.cells.lookup y=some c:=e
   rcases mem e with ⟨h1,_⟩ | ⟨h1,_⟩
   ·exact (hfp b hb).1.2.2.2.2.1 y c h1 z
   ·have h2:s.heap.objs.size+1<=b:=by rw [← z]; exact h1
    exact absurd (Nat.lt_of_lt_of_le (hfp b hb).2 (Nat.le_of_succ_le h2)) (Nat.lt_irrefl _)
  ·rcases (hfp b hb).1.2.2.2.1 with z | z
   ·exact I.ok.noex b o e z
   ·exact absurd (Nat.lt_of_lt_of_le (Heap.lt_size e) (Nat.le_trans I.ok.bsz z)) (Nat.lt_irrefl _)
  ·rcases List.mem_cons.mp (I.stkSub b z) with z | z
   ·exact (hfp b hb).1.2.1 z
   ·exact (hfp b hb).1.2.2.1 z
 refine ⟨okB,rfl,I.bare,Un.kept kp,⟨fun _=>none,?_,fun i y av e1 e2 e3=>?_⟩,fun y c e=>?_,?_,fun y c e=>?_,fun p hp=>?_,I.hok.kept kp,by rw [wipe_length]; exact I.len⟩
 ·show Heap.Ns _ cenv.locals _
  rw [hL]
  exact Heap.Ns.keeps (Heap.Ns.new ..) fun b o e=>pushCells_keeps _ _ _ _ e
 · obtain ⟨e2, hne⟩ := wipe_some e2
   have hfr:scope.names.lookup y=some .free/\(cenv.kindOf y=some .cell\/cenv.kindOf y=some .free):=by
     have key:∀ k,cenv.scope.names.lookup y=some k->k=.local\/k=.cell\/k=.free->scope.names.lookup y=some .free/\(cenv.kindOf y=some .cell\/cenv.kindOf y=some .free):=fun k hk hk'=>by
       have hk0:=hk
       rw [hsc] at hk
       obtain ⟨k',e,r⟩:=lookup_relS hk
       have no:¬ (k'=.local\/k'=.cell):=fun hh=>by
         rcases ok.own _ (PySem.mem_of_lookup e) hh with e' | e'
         · obtain ⟨p,hp,hpy⟩:=List.mem_map.mp e'
           have e3:=ok.ix p hp
           have:p.1=y:=hpy
           rw [this] at e3
           exact hne (List.mem_map.mpr ⟨p,hp,nodup_ix hN e3 e1⟩)
         · exact e' (List.mem_of_getElem? e1)
       rcases r with rfl | ⟨rfl,rfl⟩
       · rcases hk' with rfl | rfl | rfl
         · exact absurd (.inl rfl) no
         · exact absurd (.inr rfl) no
         · exact ⟨e,.inr hk0⟩
       · exact ⟨e,.inl hk0⟩
     have e3:Vis cenv.scope y:=e3
     rcases e3 with e3 | e3 | e3
     · exact key _ e3 (.inl rfl)
     · exact key _ e3 (.inr (.inl rfl))
     · exact key _ e3 (.inr (.inr rfl))
   obtain ⟨m,hn,hl⟩:=I.loc
   have hvis:Vis X.env.scope y:=(ok.free _ (PySem.mem_of_lookup hfr.1) rfl).elim (fun k=>.inr (.inl k)) (fun k=>.inr (.inr k))
   obtain ⟨w,r,q⟩:=hl i y av e1 e2 hvis
   refine ⟨w,r,.inr ⟨hfr.2,?_⟩⟩
   obtain ⟨c,h1,h2⟩:=look hfr.1
   rcases q with ⟨k,_⟩ | ⟨_,c',e',z⟩
   · have k:X.env.scope.names.lookup y=some .local:=k
     rcases ok.free _ (PySem.mem_of_lookup hfr.1) rfl with k' | k' <;> rw [show X.env.scope.names.lookup y=_ from k'] at k <;> cases k
   · rw [h2] at e'; cases e'
     exact ⟨c,h1,z.keeps kp⟩
 ·have e:cenv.cells.lookup y=some c:=e
  rcases mem e with ⟨h1,_⟩ | ⟨_,z⟩
  ·obtain ⟨w,z⟩:=I.cell y c h1
   exact ⟨w,z.keeps kp⟩
  ·exact ⟨_,z⟩
 ·show H cenv.locals=none
  rw [hL]; exact I.hok.fresh (Nat.le_refl _)
 ·have e:cenv.cells.lookup y=some c:=e
  rcases mem e with ⟨h1,_⟩ | ⟨h1,_⟩
  ·exact I.freeC y c h1
  ·exact I.hok.fresh (Nat.le_of_succ_le h1)
 ·exact absurd (show p∈([]:List (Addr×Obj)) ++ [] from hp) (by simp)
theorem app_ok {E:Value->Shared->Prop} {D:Addr} {xs:List V} {y:V} {v:Value} {Q:Value->Shared->Prop} (I:Inv X pins σ H s) (hD:H D=some (.lst xs)) (hz:xs.length < sizeLine) (r:RelV y v)
  (h:∀ s',Inv X pins σ (upd H D (.lst (xs ++ [y]))) s'->Q .none s'):wpAny (model X.prog X.w) X.A (call (.builtin "list.append") [.ref D,v]) Q E s:=by
 obtain ⟨hz',its,n,ri,e⟩:=I.hok D _ hD
 have hl:=ri.length
 refine append_at (hsz:=by rw [List.size_toArray]; omega) e fun h' sb ho'=>?_
 refine h { s with heap:=h' } (I.write (t':=s.toks) (by rw [hD]; trivial) (.inl rfl) (fun b u hb q=>(sb.2 b hb).trans q) ⟨_,ho'⟩ ⟨by rw [List.length_append]; exact hz,its ++ [v],n+1,ri.append (.cons r .nil),?_⟩)
 rw [ho']
 simp
def PTs (X:Cx) (ifs:List Expr) (t:TT):Prop :=
 ∀ (pins:List (Addr×Obj)) (s:Shared) (σ:St) (H:Hp) (Q:Bool->Hp->Prop),Inv X pins σ H s->t σ H Q ->
  wpAny (model X.prog X.w) X.A (forIn ifs true fun c r=>if r=true then do let ok ← isTrue c X.env (eval c X.env); pure (ForInStep.yield ok) else pure (ForInStep.yield r)) (TP X pins σ Q) X.xe s
def tYes:TT:=fun _ H Q=>Q true H
theorem pts_nil:PTs X [] tYes:=fun _ _ _ H _ I h=>wpAny_tests_nil ⟨H,I,h⟩
theorem pts_one {c:Expr} {t:TT} (h:PT X c t):PTs X [c] t:=fun pins s σ H Q I hw=>wpAny_tests_one (h pins s σ H Q I hw)
end
theorem thnF {α:Type} {t:Sem α} {Q Q':α->Shared->Prop} {M:Model} {A:Around} {E:Value->Shared->Prop} {s:Shared} (h:wpAny M A t Q (fun _ _=>False) s) (hQ:∀ a s,Q a s->Q' a s):wpAny M A t Q' E s:=wpAny_mono h hQ fun _ _ z=>False.elim z
theorem compLoop_any {prog:Program} {w:World} {A:Around} {R:Result->Shared->Prop} {s:Shared} {elt target iter:Expr} {ifs:List Expr} {scope:Scope} {pos:Pos} {it acc:Value} {env:Env} (I:Nat->Shared->Prop)
  (turn:∀ n s,I n s->wpAny (model prog w) A (pyNext it) (fun r s₁=>match r with
   | none=>R (.ok .next) s₁
   | some v=>wpAny (model prog w) A (letOwnedTupleGo target it v) (fun _ s₁'=>wpAny (model prog w) A (assign target env v) (fun _ s₂ =>
     wpAny (model prog w) A (forIn ifs true fun c r=>if r=true then do let ok ← isTrue c env (eval c env); pure (ForInStep.yield ok) else pure (ForInStep.yield r)) (fun ok s₃ =>
      if ok=true then wpAny (model prog w) A (eval elt env) (fun x s₄ =>
       wpAny (model prog w) A (call (.builtin "list.append") [acc,x]) (fun _ s₅=>∃ m,m < n/\I m s₅) (notedBy (model prog w) A env fun e s'=>R (.error e) s') s₄) (notedBy (model prog w) A env fun e s'=>R (.error e) s') s₃
      else ∃ m,m < n/\I m s₃) (notedBy (model prog w) A env fun e s'=>R (.error e) s') s₂) (notedBy (model prog w) A env fun e s'=>R (.error e) s') s₁') (notedBy (model prog w) A env fun e s'=>R (.error e) s') s₁) (notedBy (model prog w) A env fun e s'=>R (.error e) s') s)
  (n:Nat) (h:I n s) :
  codeAny (model prog w) A (.compLoop (.ListComp elt [⟨target,iter,ifs,0⟩] scope pos) 0 it acc env) R s:=by
 refine codeAny_loop rfl I (fun n s hI=>?_) n h
 show wpAny _ A ((compTurn (.ListComp elt [⟨target,iter,ifs,0⟩] scope pos) 0 it acc env).onRaise (fun x=>do noteFrame x env; theTreesLotGoes x)) _ _ s
 refine wpAny_noted ?_
 rw [compTurn_list]
 refine wpAny_bind (wpAny_standAt (wpAny_bind (wpAny_mono (turn n s hI) (fun r s₁ h₁=>?_) fun _ _ h'=>h')))
 cases r with
 | none=>exact wpAny_pure h₁
 | some v =>
  refine wpAny_bind (wpAny_mono h₁ (fun _ s₁' h₁'=>?_) fun _ _ h'=>h')
  refine wpAny_bind (wpAny_mono h₁' (fun _ s₂ h₂=>wpAny_bind (wpAny_mono h₂ (fun ok s₃ h₃=>?_) fun _ _ h'=>h')) fun _ _ h'=>h')
  cases ok with
  | false=>exact wpAny_pure ⟨rfl,h₃⟩
  | true =>
   exact wpAny_bind (wpAny_bind (wpAny_mono h₃ (fun x s₄ h₄=>wpAny_bind (wpAny_mono h₄ (fun _ s₅ h₅=>wpAny_pure (wpAny_pure ⟨rfl,h₅⟩)) fun _ _ h'=>h')) fun _ _ h'=>h'))
section
variable {X:Cx}
def tLc (wi:TI) (g:TG) (tt:TT) (te:TE) (vs:List Nat):TE:=fun σ H Q=>wi σ H fun J H1=>∀ D,H1 D=none->∃ W:Nat->Nat->Hp->Prop,(∃ m,W 0 m (upd H1 D (.lst [])))/\∀ i m H,W i m H ->
 (J.stop i H/\Q (.ref D) H)\/(J.go i H/\∃ Nx:Hp->Prop,(∀ H',Nx H'->∃ m',m' < m/\W (i+1) m' H')/\∀ x H',J.yld i H x H'->g x (wipe σ vs) H' fun σ2 H2=>wipe σ2 vs=wipe σ vs/\tt σ2 H2 fun b H3 =>
  if b=true then te σ2 H3 fun y H4=>∃ acc,H4 D=some (.lst acc)/\acc.length < sizeLine/\Nx (upd H4 D (.lst (acc ++ [y]))) else Nx H3)
theorem lc_core {pins:List (Addr×Obj)} {s:Shared} {σ:St} {H:Hp} {Q:VK} {elt tg iter:Expr} {ifs:List Expr} {scope:Scope} {own:List (Str×Nat)} {pos pos':Pos} {wi:TI} {g:TG} {tt:TT} {te:TE} {use:Option (Value->Sem Unit)} {Qf:Value->Shared->Prop}
  (hc:X.calm=true) (hN:X.N.Nodup) (I:Inv X pins σ H s) (hi:PI X tg iter wi) (ok:BlkOk X.N X.env.scope scope own)
  (hg:∀ (s:Shared) (H:Hp) (C:Addr) (cl:List (Str×Addr)) (fp:List Addr),PG (X.blk s H scope (compEnvC scope cl C X.env) fp) tg g) (ht:∀ (s:Shared) (H:Hp) (C:Addr) (cl:List (Str×Addr)) (fp:List Addr),PTs (X.blk s H scope (compEnvC scope cl C X.env) fp) ifs tt)
  (he:∀ (s:Shared) (H:Hp) (C:Addr) (cl:List (Str×Addr)) (fp:List Addr),PE (X.blk s H scope (compEnvC scope cl C X.env) fp) elt te) (hs:∀ x,foldedSetIterable iter X.env x=pure x)
  (h:tLc wi g tt te (own.map (·.2)) σ H Q)
  (hRR:∀ D C s' m H',Inv X pins σ H' s'->Q (.ref D) H'->s'.heap.Ns C m->FpOk X pins H' C->compPost (model X.prog X.w) X.A X.xe use Qf (.ref D) C (.ok .next) s') :
  wpAny (model X.prog X.w) X.A (comprehension (.ListComp elt [⟨tg,iter,ifs,0⟩] scope pos) scope X.env pos' (newList []) false (eval iter X.env) use) Qf X.xe s:=by
 have hfree:∀ y∈scope.names,y.2=.free->∃ c,X.env.cells.lookup y.1=some c:=fun y hy e=>by
  rcases ok.free y hy e with k | k
  ·exact I.ok.has _ (.inl k)
  ·exact I.ok.has _ (.inr k)
 refine wpAny_comprehension_free (use:=use) rfl hs (closure_ok hfree) ok.kind (fun y hy e=>by rw [ok.uniq y hy,e])
  (thn (hi pins s σ H _ I h) fun xv s1 hx=>thn hx fun itv s2 h2=>?_)
 obtain ⟨it,fp,tn,J,H2,e,I2,T,st2,f2,q⟩:=h2
 subst e
 refine wpAny_newObj_type (newEnv_comp ?_) (by show 0<=sizeLine; decide)
 generalize hD:s2.heap.objs.size=D
 have hDn:H2 D=none:=I2.hok.fresh (Nat.le_of_eq hD)
 obtain ⟨W,⟨m0,w0⟩,turn⟩:=q D hDn
 -- the new list
 generalize hs3:({ s2 with heap:=s2.heap.push { cls:=.type "list",data:=.seq ([]:List Value).toArray } }:Shared)=s3
 have I3:Inv X pins σ (upd H2 D (.lst [])) s3:=by
  rw [← hs3]
  refine I2.laid (t':=s2.toks) (fun b o e=>Heap.get?_push_of_some _ e) (Nat.le_of_eq hD) ⟨Nat.zero_le _,[],0,.nil,?_⟩
  rw [← hD]
  exact Heap.get?_push_size _ rfl
 have h3:s3.heap=s2.heap.push { cls:=.type "list",data:=.seq ([]:List Value).toArray }:=by rw [← hs3]
 have sz:∀ b∈fp,b < s2.heap.objs.size:=fun b hb=>by
  obtain ⟨o,e,_⟩:=T.obj _ _ st2 b hb
  exact Heap.lt_size e
 have f3:∀ b∈fp,FpOk X pins (upd H2 D (.lst [])) b/\b < s3.heap.objs.size:=fun b hb=>by
  have hlt:=sz b hb
  refine ⟨⟨?_,(f2 b hb).2⟩,by rw [h3,Heap.size_push]; exact Nat.lt_succ_of_lt hlt⟩
  rw [upd_ne (by rw [← hD]; exact Nat.ne_of_lt hlt)]
  exact (f2 b hb).1
 have st3:tn 0 s3.heap:=T.keep _ _ _ st2 fun b _ o e=>by rw [h3]; exact Heap.get?_push_of_some _ e
 have I4:=block_start I3 ok hN f3
 have pg:=hg s3 (upd H2 D (.lst [])) s3.heap.objs.size (cellsFrom (s3.heap.objs.size+1) scope.names (cloFrom X.env.cells scope.names [])) fp
 have pt:=ht s3 (upd H2 D (.lst [])) s3.heap.objs.size (cellsFrom (s3.heap.objs.size+1) scope.names (cloFrom X.env.cells scope.names [])) fp
 have pe:=he s3 (upd H2 D (.lst [])) s3.heap.objs.size (cellsFrom (s3.heap.objs.size+1) scope.names (cloFrom X.env.cells scope.names [])) fp
 show codeAny _ _ (.compStart (.ListComp elt [⟨tg,iter,ifs,0⟩] scope pos) 0 (.ref it) (.ref D) (compEnvC scope (cellsFrom (s3.heap.objs.size+1) scope.names (cloFrom X.env.cells scope.names [])) s3.heap.objs.size X.env)) (compPost (model X.prog X.w) X.A X.xe use Qf (.ref D) s3.heap.objs.size) { s3 with heap:=pushCells (s3.heap.push { cls:=.type "dict",data:=.dict #[] }) scope.names }
 have nfp:∀ b∈fp,(upd H2 D (.lst [])) b=none:=fun b hb=>(f3 b hb).1.1
 generalize hce:compEnvC scope (cellsFrom (s3.heap.objs.size+1) scope.names (cloFrom X.env.cells scope.names [])) s3.heap.objs.size X.env=ce at I4 pg pt pe ⊢
 have cL:ce.locals=s3.heap.objs.size:=by subst hce; rfl
 generalize hH3:upd H2 D (.lst [])=H3 at I3 I4 pg pt pe w0 nfp f3
 generalize hs4:({ s3 with heap:=pushCells (s3.heap.push { cls:=.type "dict",data:=.dict #[] }) scope.names }:Shared)=s4 at I4 ⊢
 have st4:tn 0 s4.heap:=T.keep _ _ _ st3 fun b _ o e=>by rw [← hs4]; exact pushCells_keeps _ _ _ _ (Heap.get?_push_of_some _ e)
 have stat:∀ {σ':St} {H':Hp} {s':Shared},Inv (X.blk s3 H3 scope ce fp) [] σ' H' s'->(∀ b∈fp,H' b=none)->∀ b∈fp,FpOk (X.blk s3 H3 scope ce fp) [] H' b:=fun {σ' H' s'} I' hn b hb =>
  ⟨hn b hb,(I'.ok.exf b hb).1,I'.ok.exfs b hb,.inl hb,fun x c e=>(I'.ok.exf b hb).2 x c e,fun p hp=>absurd (show p∈([]:List (Addr×Obj)) ++ [] from hp) (by simp)⟩
 have loop:codeAny (model X.prog X.w) X.A (.compLoop (.ListComp elt [⟨tg,iter,ifs,0⟩] scope pos) 0 (.ref it) (.ref D) ce) (compPost (model X.prog X.w) X.A X.xe use Qf (.ref D) s3.heap.objs.size) s4:=by
  refine compLoop_any (fun n s'=>∃ i H',Inv (X.blk s3 H3 scope ce fp) [] (wipe σ (own.map (·.2))) H' s'/\tn i s'.heap/\(∀ b∈fp,H' b=none)/\W i n H') ?_ m0 ⟨0,H3,I4,st4,nfp,w0⟩
  rintro n s5 ⟨i,H5,I5,st5,n5,w5⟩
  rcases turn i n H5 w5 with ⟨stop,qq⟩ | ⟨go,Nx,hNx,step⟩
  ·have td:=T.done (X.blk s3 H3 scope ce fp) rfl rfl rfl hc i [] s5 _ H5 (fun _ _=>False) I5 (stat I5 n5) st5 stop
   refine thnF td fun r s6 ⟨hr,I6⟩=>?_
   subst hr
   -- back in the def's context
   have I7:Inv X pins σ H5 s6:=I3.call' (ch:=fp) I6.os I6.base I6.hok I6.bare fun b hb=>⟨(f3 b hb).1.2.2.2.1,(f3 b hb).1.2.1,(f3 b hb).1.2.2.2.2.1,(f3 b hb).1.2.2.2.2.2⟩
   have nC:H5 s3.heap.objs.size=none:=by
    have z:H5 ce.locals=none:=I6.free
    rw [cL] at z
    exact z
   obtain ⟨m,hn,_⟩:=I6.loc
   have hn:s6.heap.Ns ce.locals m:=hn
   rw [cL] at hn
   exact hRR D s3.heap.objs.size s6 m H5 I7 qq hn (I3.fpOk (Nat.le_refl _) nC)
  ·have ti:=T.item (X.blk s3 H3 scope ce fp) rfl rfl rfl hc i [] s5 _ H5 (fun _ _=>False) I5 (stat I5 n5) st5 go
   refine thnF ti fun r s6 ⟨u,hr,h6⟩=>?_
   subst hr
   refine thnF h6 fun _ s7 ⟨x,H7,I7,r7,y7,st7,n7⟩=>?_
   have I7':=I7.pinned (stat I7 n7) (T.obj _ _ st7)
   refine thnF (pg _ s7 _ H7 x u _ I7' r7 (step x H7 y7)) fun _ s8 ⟨σ8,H8,I8,hw8,q8⟩=>?_
   refine thnF (pt _ s8 σ8 H8 _ I8 q8) fun b s9 ⟨H9,I9,q9⟩=>?_
   -- the turn's end
   have fin:∀ {s':Shared} {H':Hp},Inv (X.blk s3 H3 scope ce fp) ([] ++ pinsAt fp s7.heap) σ8 H' s'->Nx H'->∃ m,m < n/\∃ i H',Inv (X.blk s3 H3 scope ce fp) [] (wipe σ (own.map (·.2))) H' s'/\tn i s'.heap/\(∀ b∈fp,H' b=none)/\W i m H':=fun {s' H'} I' nx=>by
    obtain ⟨m',hm,w'⟩:=hNx H' nx
    have pin':∀ b∈fp,∀ o,s7.heap.get? b=some o->s'.heap.get? b=some o/\H' b=none:=fun b hb o e =>
     let z:=I'.pin (b,o) (List.mem_append_right _ (List.mem_append_right _ (mem_pinsAt hb e)))
     ⟨z.1,z.2.1⟩
    have hl:(wipe σ (own.map (·.2))).length = σ8.length:=by rw [← hw8,wipe_length]
    refine ⟨m',hm,i+1,H',(I'.unpinned (pins:=[])).weak hl (fun j v e=>?_),T.keep _ _ _ st7 fun b hb o e=>(pin' b hb o e).1,fun b hb=>?_,w'⟩
    ·rw [← hw8] at e
     exact (wipe_some e).1
    ·obtain ⟨o,e,_⟩:=T.obj _ _ st7 b hb
     exact (pin' b hb o e).2
   cases b with
   | false =>
    simp only [Bool.false_eq_true,if_false] at q9 ⊢
    exact fin I9 q9
   | true =>
    simp only [if_true] at q9 ⊢
    refine thnF (pe _ s9 σ8 H9 _ I9 q9) fun z s10 ⟨yv,H10,I10,r10,acc,hD10,hz10,nx⟩=>?_
    exact app_ok (X:=X.blk s3 H3 scope ce fp) I10 hD10 hz10 r10 fun s11 I11=>fin I11 nx
 exact codeAny_compStart_list loop (T.self X.A 0 _ _ _ st4 loop)
theorem pe_lc {elt tg iter:Expr} {ifs:List Expr} {scope:Scope} {own:List (Str×Nat)} {pos:Pos} {wi:TI} {g:TG} {tt:TT} {te:TE} (hc:X.calm=true) (hN:X.N.Nodup) (hi:PI X tg iter wi) (ok:BlkOk X.N X.env.scope scope own)
  (hg:∀ (s:Shared) (H:Hp) (C:Addr) (cl:List (Str×Addr)) (fp:List Addr),PG (X.blk s H scope (compEnvC scope cl C X.env) fp) tg g) (ht:∀ (s:Shared) (H:Hp) (C:Addr) (cl:List (Str×Addr)) (fp:List Addr),PTs (X.blk s H scope (compEnvC scope cl C X.env) fp) ifs tt)
  (he:∀ (s:Shared) (H:Hp) (C:Addr) (cl:List (Str×Addr)) (fp:List Addr),PE (X.blk s H scope (compEnvC scope cl C X.env) fp) elt te) (hs:∀ x,foldedSetIterable iter X.env x=pure x:=by intro _; rfl) :
  PE X (.ListComp elt [⟨tg,iter,ifs,0⟩] scope pos) (tLc wi g tt te (own.map (·.2))):=by
 intro pins s σ H Q I h
 rw [eval_ListComp]
 refine lc_core hc hN I hi ok hg ht he hs h fun D C s' m H' I' q hn f=>⟨m,hn,fun h'' sb=>?_⟩
 obtain ⟨f0,f1,f2,f3,f4,f5⟩:=f
 exact ⟨.ref D,H',I'.turned (t':=s'.toks) (fun b o hb e=>(sb.2 b hb).trans e) f0 f1 f3 f4 f5,rfl,q⟩
theorem ps_setLc {i:Nat} {y:Str} {py:Pos} {elt tg iter:Expr} {ifs:List Expr} {scope:Scope} {own:List (Str×Nat)} {pos spos:Pos} {wi:TI} {g:TG} {tt:TT} {te:TE} (hc:X.calm=true) (hN:X.N.Nodup) (hy:X.N[i]? = some y) (hyl:X.env.scope.names.lookup y=some .local)
  (hsw:swapsWith (.ListComp elt [⟨tg,iter,ifs,0⟩] scope pos) (some (.Name y py)) spos.line X.env=pure true) (hi:PI X tg iter wi) (ok:BlkOk X.N X.env.scope scope own)
  (hg:∀ (s:Shared) (H:Hp) (C:Addr) (cl:List (Str×Addr)) (fp:List Addr),PG (X.blk s H scope (compEnvC scope cl C X.env) fp) tg g) (ht:∀ (s:Shared) (H:Hp) (C:Addr) (cl:List (Str×Addr)) (fp:List Addr),PTs (X.blk s H scope (compEnvC scope cl C X.env) fp) ifs tt)
  (he:∀ (s:Shared) (H:Hp) (C:Addr) (cl:List (Str×Addr)) (fp:List Addr),PE (X.blk s H scope (compEnvC scope cl C X.env) fp) elt te) (hs:∀ x,foldedSetIterable iter X.env x=pure x:=by intro _; rfl) :
  PS X (.Assign [.Name y py] (.ListComp elt [⟨tg,iter,ifs,0⟩] scope pos) spos) (tAsg (tLc wi g tt te (own.map (·.2))) (gName i)):=by
 intro pins s σ H D I h
 rw [exec_Assign_Name_used _ _ _ _ hsw]
 refine wpAny_bind (wpAny_standAt (wpAny_bind ?_))
 show wpAny _ X.A (do let _ ← comprehension (.ListComp elt [⟨tg,iter,ifs,0⟩] scope pos) scope X.env (firstIterPos [⟨tg,iter,ifs,0⟩] pos) (newList []) false (eval iter X.env) (some (assign (.Name y py) X.env))) _ _ s
 have h:tLc wi g tt te (own.map (·.2)) σ H (fun x H1=>gName i x σ H1 D.nx):=h
 refine wpAny_bind (thn (lc_core (Qf:=fun _ s'=>SP X pins D .next s') hc hN I hi ok hg ht he hs h fun L C s' m H' I' q hn f=>?_) fun _ s' hq=>wpAny_pure (wpAny_pure hq))
 show wpAny _ _ (assign (.Name y py) X.env (.ref L)) _ _ _
 refine wpAny_assign_Name (store_ok2 (v:=V.ref L) I' hN hy (.inl hyl) rfl (fun s2 I2 ⟨a,sb,ha⟩=>?_) (.inr hyl))
 obtain ⟨f0,f1,f2,f3,f4,f5⟩:=f
 have haC:C≠a:=by
  rcases ha with z | z
  ·rw [z]; exact f1
  ·exact fun e=>f4 y a z e.symm
 refine ⟨m,hn.sameBut sb haC,fun h3 sb3=>?_⟩
 exact ⟨_,H',I2.turned (t':=s2.toks) (fun b o hb e=>(sb3.2 b hb).trans e) f0 f1 f3 f4 f5,q⟩
theorem sw_true {elt:Expr} {gs:List Comprehension} {scope:Scope} {pos py:Pos} {y:Str} {l:Nat} {env:Env} (hk:env.scope.kind=.function) (hy:env.scope.names.lookup y=some .local) (hl:(py.line == pos.line)=true)
  (ha:(scope.names.any fun (n,k)=>n == y && (k == .local || k == .cell))=false):swapsWith (.ListComp elt gs scope pos) (some (.Name y py)) l env=pure true:=by
 have ky:env.kindOf y=some .local:=hy
 have hb:env.blockKind=.function:=by unfold Env.blockKind; rw [hk]; rfl
 unfold swapsWith
 simp only [hb,ky,ha,Expr.pos,hl]
 rfl
end
theorem lc_range {lo:Int} {n:Nat} {g:TG} {tt:TT} {te:TE} {vs:List Nat} {σ:St} {H1:Hp} {D:Addr} {Qd:Hp->Prop} (Pv:Nat->Hp->Prop) (h0:Pv 0 (upd H1 D (.lst [])))
  (hs:∀ i H,i < n->Pv i H->g (.int (lo+i)) (wipe σ vs) H fun σ2 H2=>wipe σ2 vs=wipe σ vs/\tt σ2 H2 fun b H3 =>
   if b=true then te σ2 H3 fun y H4=>∃ acc,H4 D=some (.lst acc)/\acc.length < sizeLine/\Pv (i+1) (upd H4 D (.lst (acc ++ [y]))) else Pv (i+1) H3) (hd:∀ H,Pv n H->Qd H) :
  ∃ W:Nat->Nat->Hp->Prop,(∃ m,W 0 m (upd H1 D (.lst [])))/\∀ i m H,W i m H ->
   ((Itr lo n).stop i H/\Qd H)\/((Itr lo n).go i H/\∃ Nx:Hp->Prop,(∀ H',Nx H'->∃ m',m' < m/\W (i+1) m' H')/\∀ x H',(Itr lo n).yld i H x H'->g x (wipe σ vs) H' fun σ2 H2=>wipe σ2 vs=wipe σ vs/\tt σ2 H2 fun b H3 =>
    if b=true then te σ2 H3 fun y H4=>∃ acc,H4 D=some (.lst acc)/\acc.length < sizeLine/\Nx (upd H4 D (.lst (acc ++ [y]))) else Nx H3):=by
 refine ⟨fun i m H=>m=n - i/\i<=n/\Pv i H,⟨n,by simp,Nat.zero_le _,h0⟩,?_⟩
 rintro i m H ⟨rfl,hi,p⟩
 by_cases hlt:i < n
 ·refine .inr ⟨hlt,Pv (i+1),fun H' p'=>⟨n - (i+1),by omega,rfl,hlt,p'⟩,fun x H' y=>?_⟩
  obtain ⟨e,y⟩:=y
  subst e y
  exact hs i _ hlt p
 ·have e:i=n:=by omega
  subst e
  exact .inl ⟨Nat.le_refl _,hd H p⟩
theorem lc_list {K:PySem.W.Frag} {a:Addr} {xs:List V} {g:TG} {tt:TT} {te:TE} {vs:List Nat} {σ:St} {H1:Hp} {D:Addr} {Qd:Hp->Prop} (Pv:Nat->Hp->Prop) (h0:Pv 0 (upd H1 D (.lst []))) (hl:∀ i H,i<=xs.length->Pv i H->SqL K H a xs)
  (hs:∀ i x H,xs[i]? = some x->Pv i H->g x (wipe σ vs) H fun σ2 H2=>wipe σ2 vs=wipe σ vs/\tt σ2 H2 fun b H3 =>
   if b=true then te σ2 H3 fun y H4=>∃ acc,H4 D=some (.lst acc)/\acc.length < sizeLine/\Pv (i+1) (upd H4 D (.lst (acc ++ [y]))) else Pv (i+1) H3) (hd:∀ H,Pv xs.length H->Qd H) :
  ∃ W:Nat->Nat->Hp->Prop,(∃ m,W 0 m (upd H1 D (.lst [])))/\∀ i m H,W i m H ->
   ((Itl K a).stop i H/\Qd H)\/((Itl K a).go i H/\∃ Nx:Hp->Prop,(∀ H',Nx H'->∃ m',m' < m/\W (i+1) m' H')/\∀ x H',(Itl K a).yld i H x H'->g x (wipe σ vs) H' fun σ2 H2=>wipe σ2 vs=wipe σ vs/\tt σ2 H2 fun b H3 =>
    if b=true then te σ2 H3 fun y H4=>∃ acc,H4 D=some (.lst acc)/\acc.length < sizeLine/\Nx (upd H4 D (.lst (acc ++ [y]))) else Nx H3):=by
 refine ⟨fun i m H=>m=xs.length - i/\i<=xs.length/\Pv i H,⟨xs.length,by simp,Nat.zero_le _,h0⟩,?_⟩
 rintro i m H ⟨rfl,hi,p⟩
 have q:=hl i H hi p
 by_cases hlt:i < xs.length
 ·refine .inr ⟨⟨xs,xs[i],q,by simp [hlt]⟩,Pv (i+1),fun H' p'=>⟨xs.length - (i+1),by omega,rfl,hlt,p'⟩,fun x H' y=>?_⟩
  obtain ⟨e,y⟩:=y
  subst e
  exact hs i x _ (y xs q) p
 ·have e:i=xs.length:=by omega
  subst e
  exact .inl ⟨⟨xs,q,Nat.le_refl _⟩,hd H p⟩
def blkC (N:List Str) (sc scope:Scope) (own:List (Str×Nat)):Bool :=
 (match scope.kind with | .function=>true | _=>false) && (scope.names.all fun y=>decide (scope.names.lookup y.1=some y.2)) && (own.all fun p=>decide (N[p.2]? = some p.1)) &&
  (scope.names.all fun y=>match y.2 with
   | .free=>(match sc.names.lookup y.1 with | some .cell=>true | some .free=>true | _=>false)
   | .local=>decide (y.1∈own.map (·.1)) || decide (y.1 ∉ N)
   | .cell=>decide (y.1∈own.map (·.1)) || decide (y.1 ∉ N)
   | _=>true)
theorem blkOk_by {N:List Str} {sc scope:Scope} {own:List (Str×Nat)} (h:blkC N sc scope own=true):BlkOk N sc scope own:=by
 unfold blkC at h
 simp only [Bool.and_eq_true,List.all_eq_true,decide_eq_true_eq] at h
 obtain ⟨⟨⟨h1,h2⟩,h3⟩,h4⟩:=h
 refine ⟨?_,h2,h3,fun y hy e=>?_,fun y hy e=>?_⟩
 ·split at h1
  ·assumption
  ·cases h1
 ·have q:=h4 y hy
  simp only [e] at q
  split at q <;> first | exact .inl (by assumption) | exact .inr (by assumption) | cases q
 ·have q:=h4 y hy
  rcases e with e | e <;> (simp only [e,Bool.or_eq_true,decide_eq_true_eq] at q; exact q)
end L2
namespace L2
open PySem PySem.Spec PyProof.Rows
end L2
namespace L2
open PySem PySem.Spec PyProof.Rows
end L2
namespace L2
open PySem PySem.Spec PyProof.Rows
end L2
namespace L2
open PySem PySem.Spec PyProof.Rows
theorem boot_reversed5:bootBuiltins "reversed" = some (.type "reversed"):=by decide +kernel
section
variable {X:Cx} {pins:List (Addr×Obj)} {σ:St} {H:Hp} {s:Shared} {h':Heap}
theorem Inv.turnedL {t':Nat} {ch:List Addr} (I:Inv X pins σ H s) (k:∀ b o,b ∉ ch->s.heap.get? b=some o->h'.get? b=some o) (hf:∀ b∈ch,FpOk X pins H b):Inv X pins σ H { s with heap:=h',toks:=t' }:=by
 have nit:∀ b u,H b=some u->b ∉ ch:=fun b u e z=>by
  have q:=(hf b z).1
  rw [q] at e; cases e
 refine I.step (g':=s.gens) (d':=s.drawn) (ch:=ch) (fun b hb=>⟨(hf b hb).2.2.2.1,(hf b hb).2.1,(hf b hb).2.2.2.2.1,(hf b hb).2.2.2.2.2⟩) (fun b o _ _ hc e _=>k b o hc e) (fun b o _ _ hc e _=>⟨o.slots,k b o hc e⟩)
  (fun _ _ _ _ n=>n) (fun b o hc e=>⟨o,k b o hc e⟩) (fun _ _ e=>e) (fun _ _ _ e=>e) (fun b ps e=>⟨#[],by rw [e]; simp⟩) (fun m hm=>?_) (fun b u e=>?_) I.bare
 ·obtain ⟨o,es,ep,ho,r⟩:=hm
  exact ⟨o,es,ep,k _ o (fun z=>(hf _ z).2.1 rfl) ho,r⟩
 ·refine (I.hok b u e).stay (fun c v hc q=>k c v ?_ q) (fun _ q=>q) fun _ _ q=>q
  rcases hc with z | z
  ·rw [z]; exact nit b u e
  ·exact nit c _ z
theorem Inv.turnedNew {t':Nat} {ch:List Addr} {T:Addr} {ob:HO} (I:Inv X pins σ H s) (k:∀ b o,b ∉ ch->s.heap.get? b=some o->h'.get? b=some o) (hf:∀ b∈ch,FpOk X pins H b) (hT:s.heap.objs.size<=T)
  (new:ObjOk X.prog X.w (upd H T ob) h' T ob):Inv X pins σ (upd H T ob) { s with heap:=h',toks:=t' }:=by
 have hn:H T=none:=I.hok.fresh hT
 have nit:∀ b u,H b=some u->b ∉ ch:=fun b u e z=>by
  have q:=(hf b z).1
  rw [q] at e; cases e
 refine I.step (g':=s.gens) (d':=s.drawn) (ch:=ch) (fun b hb=>⟨(hf b hb).2.2.2.1,(hf b hb).2.1,(hf b hb).2.2.2.2.1,(hf b hb).2.2.2.2.2⟩) (fun b o _ _ hc e _=>k b o hc e) (fun b o _ _ hc e _=>⟨o.slots,k b o hc e⟩)
  (fun b o _ e n=>?_) (fun b o hc e=>⟨o,k b o hc e⟩) (fun b xs e=>?_) (fun b o u e=>?_) (fun b ps e=>⟨#[],?_⟩) (fun m hm=>?_) (fun b u e=>?_) I.bare
 ·rw [upd_ne (Nat.ne_of_lt (Nat.lt_of_lt_of_le (Heap.lt_size e) hT))]; exact n
 ·rw [upd_ne (ne_of_none e hn)]; exact e
 ·rw [upd_ne (ne_of_none e hn)]; exact e
 ·rw [upd_ne (ne_of_none e hn),e]; simp
 ·obtain ⟨o,es,ep,ho,r⟩:=hm
  exact ⟨o,es,ep,k _ o (fun z=>(hf _ z).2.1 rfl) ho,r⟩
 · by_cases hb : b = T
   · subst hb
     rw [upd_same] at e
     cases e
     exact new
   · rw [upd_ne hb] at e
     refine (I.hok b u e).stay (fun c v hc q=>k c v ?_ q) (fun c q=>by rw [upd_ne (ne_of_none q hn)]; exact q) fun c xs q=>by rw [upd_ne (ne_of_none q hn)]; exact q
     rcases hc with z | z
     · rw [z]; exact nit b u e
     · exact nit c _ z
end
section
variable {X:Cx}
theorem pi_one {tg:Expr} {pins:List (Addr×Obj)} {σ:St} {H:Hp} {s:Shared} {R:It->Hp->Prop} {J:It} {tn:Nat->Heap->Prop} {tk:Nat} (I:Inv X pins σ H s) (o:Obj)
  (T:Turn X.prog X.w X.K tg J [s.heap.objs.size] s.heap.objs.size tn) (st:tn 0 (s.heap.push o)) (q:R J H):PIE X pins σ tg R (.ref s.heap.objs.size) { s with heap:=s.heap.push o,toks:=tk }:=by
 refine ⟨s.heap.objs.size,[s.heap.objs.size],tn,J,H,rfl,I.kept fun b ob e=>Heap.get?_push_of_some _ e,T,st,fun b hb=>?_,q⟩
 have e:b=s.heap.objs.size:=by simpa using hb
 subst e
 exact I.fpOk (Nat.le_refl _) (I.hok.fresh (Nat.le_refl _))
end
def Itc (lo c:Int) (n:Nat):It:=⟨fun i _=>i < n,fun i H x H'=>H'=H/\x=.int (lo+(i:Nat)*c),fun i _=>n<=i⟩
theorem turn_rangeC {P:Program} {w:World} {K:PySem.W.Frag} {tg:Expr} (it:Addr) (lo c:Int) (n:Nat):Turn P w K tg (Itc lo c n) [it] it (fun i h=>IsRangeIter h it (lo+(i:Nat)*c) ((n:Int) - (i:Nat)) c) where
 mem:=by simp
 obj:=fun i h st b hb=>by
  have e:b=it:=by simpa using hb
  subst e
  exact ⟨_,st,fun v z=>nomatch z⟩
 keep:=fun i h h' st k=>k it (by simp) _ st
 item:=by
  intro X hP hw hK hc i pins s σ H E I hf st hg
  subst hP hw hK
  obtain ⟨f0,f1,f2,f3,f4,f5⟩:=hf it (by simp)
  have W:=Walks.range (prog:=X.prog) (w:=X.w) (I.ok.hd hc) it lo c n
  refine W.item i s _ _ hg st fun v h' tk hv st' kk=>?_
  obtain ⟨t,rfl⟩:=hv
  have I1:Inv X pins σ H { s with heap:=h',toks:=tk }:=I.turned (fun b o hb e=>kk b o (by simpa using hb) e) f0 f1 f3 f4 f5
  exact ⟨_,rfl,go_of (s:={ s with heap:=h',toks:=tk }) (n:="range_iterator") st' rfl rfl (by decide) ⟨.int (lo+(i:Nat)*c),H,I1,⟨t,rfl⟩,⟨rfl,rfl⟩,st',fun b hb=>(hf b hb).1⟩⟩
 done:=by
  intro X hP hw hK hc i pins s σ H E I hf st hg
  subst hP hw hK
  obtain ⟨f0,f1,f2,f3,f4,f5⟩:=hf it (by simp)
  exact wpAny_pyNext_range_end (I.ok.hd hc) st (by have:n<=i:=hg; omega) fun h' eb=>⟨rfl,I.turned (t':=s.toks) (fun b o hb e=>eb b o hb e) f0 f1 f3 f4 f5⟩
 self:=fun A i s Q E st h=>wpAny_pyIter_rangeiter st h
def RgC (i j c:Int) (n:Nat):Prop:=c≠0/\c.natAbs < 1073741824/\Builtin.Range.small i j c=true/\Builtin.Range.rangeSize i j c=n
def iRng3 (ta:TA):TI:=fun σ H R=>ta σ H fun vs H1=>∃ (i j c:Int) (n:Nat),vs=[.int i,.int j,.int c]/\RgC i j c n/\R (Itc i c n) H1
section
variable {X:Cx} {tg:Expr}
theorem pi_range3 {a b c:Expr} {ta:TA} {p pos:Pos} (hg:Gl X "range") (hm:X.mg "range" = none) (ha:PA X [a,b,c] ta)
  (hs:starEach [a,b,c] X.env=(false,eval a X.env) :: starEach [b,c] X.env:=by rfl) (hpl:(backTo pos (starEach [b,c] X.env)).any (·.1)=false:=by rfl) :
  PI X tg (.Call (.Name "range" p) [a,b,c] [] pos) (iRng3 ta):=by
 intro pins s σ H R I h
 refine Call_ (ld_blt I hg hm boot_range (PyProof.Rows.callWith_type1 (thn (ha pos pins s σ H _ I h) fun us s1 ⟨vs,H1,I1,r1,q1⟩=>?_) hs hpl))
 obtain ⟨i,j,k,n,e,⟨c0,c1,c2,c3⟩,q⟩:=q1
 subst e
 cases r1 with
 | cons r rr =>
  cases rr with
  | cons r' rr =>
   cases rr with
   | cons r'' rr =>
    cases rr
    obtain ⟨t,rfl⟩:=r
    obtain ⟨t',rfl⟩:=r'
    obtain ⟨t'',rfl⟩:=r''
    refine call_range_3 c0 ?_ (.inl (PyProof.noPylong_small c1))
    refine wpAny_pyIter_range (IsRange.new ..) c2 ?_
    have I2:Inv X pins σ H1 { s1 with heap:=s1.heap.push { cls:=.type "range",data:=.fields #[.int i t,.int j t',.int k t''] } }:=I1.kept (t':=s1.toks) fun b o e=>Heap.get?_push_of_some _ e
    refine pi_one (tk:=s1.toks) I2 _ (turn_rangeC _ i k n) ?_ q
    have e1:i+((0:Nat):Int)*k=i:=by simp
    have e2:(n:Int) - ((0:Nat):Int)=Builtin.Range.rangeSize i j k:=by rw [c3]; simp
    show IsRangeIter _ _ (i+((0:Nat):Int)*k) ((n:Int) - ((0:Nat):Int)) k
    rw [e1,e2]
    exact Heap.get?_push_size _ rfl
end
def Itv (K:PySem.W.Frag) (a:Addr) (n:Nat):It :=
 ⟨fun i H=>i < n/\∃ (xs:List V) (x:V),SqL K H a xs/\xs[n - 1 - i]? = some x,fun i H x H'=>H'=H/\∀ xs,SqL K H a xs->xs[n - 1 - i]? = some x,fun i _=>n<=i⟩
theorem turn_rev {P:Program} {w:World} {K:PySem.W.Frag} {tg:Expr} (a it:Addr) (n:Nat):Turn P w K tg (Itv K a n) [it] it (fun i h=>i<=n/\h.IsRevIter it a ((n:Int) - 1 - (i:Nat))) where
 mem:=by simp
 obj:=fun i h st b hb=>by
  have e:b=it:=by simpa using hb
  subst e
  obtain ⟨_,o,e,c,d⟩:=st
  exact ⟨o,e,fun v z=>by rw [d] at z; cases z⟩
 keep:=fun i h h' st k=>⟨st.1,st.2.at fun o e=>k it (by simp) o e⟩
 item:=by
  intro X hP hw hK hc i pins s σ H E I hf st hg
  subst hP hw hK
  obtain ⟨hin,xs,x,hq,hx⟩:=hg
  obtain ⟨its,rv,p,hz⟩:=I.list hq
  obtain ⟨u,hu,ru⟩:=rv.get hx
  obtain ⟨f0,f1,f2,f3,f4,f5⟩:=hf it (by simp)
  obtain ⟨_,hit⟩:=st
  have e1:(n:Int) - 1 - ((i:Nat):Int)=((n - 1 - i:Nat):Int):=by omega
  rw [e1] at hit
  refine wpAny_pyNext_rev_item hit p.isList (x:=u) (by simpa using hu) fun h' st' sb=>?_
  have e2:((n - 1 - i:Nat):Int) - 1=(n:Int) - 1 - ((i+1:Nat):Int):=by omega
  rw [e2] at st'
  have I1:Inv X pins σ H { s with heap:=h' }:=I.turned (t':=s.toks) (fun b o hb e=>(sb.2 b hb).trans e) f0 f1 f3 f4 f5
  obtain ⟨o,e,c,d⟩:=id st'
  exact ⟨u,rfl,go_of (s:={ s with heap:=h' }) e c d (by decide) ⟨x,H,I1,ru,⟨rfl,fun ys hy=>by rw [I.list_inj hy hq]; exact hx⟩,⟨hin,st'⟩,fun b hb=>(hf b hb).1⟩⟩
 done:=by
  intro X hP hw hK hc i pins s σ H E I hf st hg
  subst hP hw hK
  obtain ⟨f0,f1,f2,f3,f4,f5⟩:=hf it (by simp)
  obtain ⟨hin,hit⟩:=st
  have hge:n<=i:=hg
  have e1:(n:Int) - 1 - ((i:Nat):Int)=-1:=by omega
  rw [e1] at hit
  exact wpAny_pyNext_rev_end (I.ok.hd hc) hit fun h' eb=>⟨rfl,I.turned (t':=s.toks) (fun b o hb e=>eb b o hb e) f0 f1 f3 f4 f5⟩
 self:=fun A i s Q E st h=>wpAny_pyIter_revIter st.2 h
def iRev (K:PySem.W.Frag) (ta:TA):TI:=fun σ H R=>ta σ H fun vs H1=>∃ (a:Addr) (xs:List V),vs=[.ref a]/\SqL K H1 a xs/\R (Itv K a xs.length) H1
section
variable {X:Cx} {tg:Expr}
theorem pi_reversed {e:Expr} {ta:TA} {p pos:Pos} (hg:Gl X "reversed") (hm:X.mg "reversed" = none) (ha:PA X [e] ta) (hs:starEach [e] X.env=[(false,eval e X.env)]:=by rfl):PI X tg (.Call (.Name "reversed" p) [e] [] pos) (iRev X.K ta):=by
 intro pins s σ H R I h
 refine Call_ (ld_blt I hg hm boot_reversed5 (PyProof.Rows.callWith_type1 (thn (ha pos pins s σ H _ I h) fun us s1 ⟨vs,H1,I1,r1,q1⟩=>?_) hs rfl))
 obtain ⟨a,xs,e,hq,q⟩:=q1
 subst e
 cases r1 with
 | cons r rr =>
  cases rr
  cases r
  obtain ⟨its,rv,p',hz⟩:=I1.list hq
  have hl:=rv.length
  have e1:((its.toArray.size:Nat):Int) - 1=(xs.length:Int) - 1 - ((0:Nat):Int):=by simp only [List.size_toArray]; omega
  refine call_reversed_list p'.isList (wpAny_pyIter_revIter (l:=a) (i:=((its.toArray.size:Nat):Int) - 1) ⟨_,Heap.get?_push_size _ rfl,rfl,rfl⟩ ?_)
  refine pi_one (tk:=s1.toks) I1 _ (turn_rev a _ xs.length) ⟨Nat.zero_le _,?_⟩ q
  rw [← e1]
  exact ⟨_,Heap.get?_push_size _ rfl,rfl,rfl⟩
end
def Ite (K:PySem.W.Frag) (a:Addr):It :=
 ⟨fun i H=>∃ (xs:List V) (x:V),SqL K H a xs/\xs[i]? = some x,fun i H v H'=>∃ T x,v=.ref T/\H T=none/\H'=upd H T (.tup [.int (i:Nat),x])/\∀ xs,SqL K H a xs->xs[i]? = some x,fun i H=>∃ xs:List V,SqL K H a xs/\xs.length<=i⟩
theorem turn_enum {P:Program} {w:World} {K:PySem.W.Frag} {elts:List Expr} {kk:Nat} {tpos:Pos} (a e it:Addr) :
  Turn P w K (.Tuple elts kk tpos) (Ite K a) [e,it] e (fun i h=>(∃ old,IsEnum h e it ((i:Nat):Int) old)/\h.IsListIter it a i/\e≠it) where
 mem:=by simp
 obj:=fun i h st b hb=>by
  obtain ⟨⟨old,he⟩,⟨o,ho,hc,hd⟩,_⟩:=st
  have e':b=e\/b=it:=by simpa using hb
  rcases e' with z | z
  ·rw [z]; exact ⟨_,he,fun v q=>nomatch q⟩
  ·rw [z]; exact ⟨o,ho,fun v q=>by rw [hd] at q; cases q⟩
 keep:=fun i h h' st k=>let ⟨⟨old,he⟩,hi,hne⟩:=st; ⟨⟨old,k e (by simp) _ he⟩,hi.at fun o q=>k it (by simp) o q,hne⟩
 item:=by
  intro X hP hw hK hc i pins s σ H E I hf st hg
  subst hP hw hK
  obtain ⟨⟨old,he⟩,hit,hne⟩:=st
  obtain ⟨xs,x,hq,hx⟩:=hg
  obtain ⟨its,rv,p,hz⟩:=I.list hq
  obtain ⟨u,hu,ru⟩:=rv.get hx
  have hel:e < s.heap.objs.size:=Heap.lt_size he
  have hil:it < s.heap.objs.size:=by obtain ⟨_,q,_⟩:=hit; exact Heap.lt_size q
  refine wpAny_pyNext_enum_item he hit p.isList (x:=u) (by simpa using hu) hne fun h' ho hit' hT hsz hk=>?_
  refine ⟨_,rfl,wpAny_letOwnedTupleGo_enum (s:={ s with heap:=h',toks:=s.toks+1 }) ho fun h'' he' sb=>?_⟩
  have hT2:h''.get? s.heap.objs.size=some { cls:=.type "tuple",data:=.seq #[.int i s.toks,u] }:=(sb.2 _ (Nat.ne_of_gt hel)).trans hT
  have new:ObjOk X.prog X.w (upd H s.heap.objs.size (.tup [.int (i:Nat),x])) h'' s.heap.objs.size (.tup [.int (i:Nat),x]) :=
   ⟨by show 2<=sizeLine; decide,[.int i s.toks,u],.cons ⟨_,rfl⟩ (.cons ru .nil),⟨_,hT2,rfl,_,rfl⟩⟩
  have I1:Inv X pins σ (upd H s.heap.objs.size (.tup [.int (i:Nat),x])) { s with heap:=h'',toks:=s.toks+1 } :=
   I.turnedNew (ch:=[e,it]) (fun b ob hb q=>(sb.2 b (fun z=>hb (by simp [z]))).trans (hk b ob (fun z=>hb (by simp [z])) (fun z=>hb (by simp [z])) q)) hf (Nat.le_refl _) new
  refine ⟨.ref s.heap.objs.size,_,I1,rfl,⟨_,x,rfl,I.hok.fresh (Nat.le_refl _),rfl,fun ys hy=>by rw [I.list_inj hy hq]; exact hx⟩,⟨⟨u,?_⟩,hit'.at fun o q=>(sb.2 it (Ne.symm hne)).trans q,hne⟩,fun b hb=>?_⟩
  ·have e1:((i+1:Nat):Int)=(i:Int)+1:=by omega
   rw [e1]; exact he'
  ·have hb':b < s.heap.objs.size:=by
    have e':b=e\/b=it:=by simpa using hb
    rcases e' with z | z
    ·rw [z]; exact hel
    ·rw [z]; exact hil
   rw [upd_ne (Nat.ne_of_lt hb')]
   exact (hf b hb).1
 done:=by
  intro X hP hw hK hc i pins s σ H E I hf st hg
  subst hP hw hK
  obtain ⟨⟨old,he⟩,hit,hne⟩:=st
  obtain ⟨xs,hq,hx⟩:=hg
  obtain ⟨its,rv,p,hz⟩:=I.list hq
  obtain ⟨f0,f1,f2,f3,f4,f5⟩:=hf it (by simp)
  have hl:=rv.length
  exact wpAny_pyNext_enum_end (I.ok.hd hc) he hit p.isList (by simp; omega) fun h' eb=>⟨rfl,I.turned (t':=s.toks) (fun b o hb q=>eb b o hb q) f0 f1 f3 f4 f5⟩
 self:=fun A i s Q E st h=>let ⟨⟨_,he⟩,_⟩:=st; wpAny_pyIter_enum he h
def iEnum (K:PySem.W.Frag) (ta:TA):TI:=fun σ H R=>ta σ H fun vs H1=>∃ a xs,vs=[.ref a]/\SqL K H1 a xs/\R (Ite K a) H1
theorem pi_enum {X:Cx} {e:Expr} {ta:TA} {p pos tpos:Pos} {elts:List Expr} {kk:Nat} (hg:Gl X "enumerate") (hm:X.mg "enumerate" = none) (ha:PA X [e] ta) (hs:starEach [e] X.env=[(false,eval e X.env)]:=by rfl) :
  PI X (.Tuple elts kk tpos) (.Call (.Name "enumerate" p) [e] [] pos) (iEnum X.K ta):=by
 intro pins s σ H R I h
 refine Call_ (ld_blt I hg hm boot_enumerate (PyProof.Rows.callWith_type1 (thn (ha pos pins s σ H _ I h) fun us s1 ⟨vs,H1,I1,r1,q1⟩=>?_) hs rfl))
 obtain ⟨a,xs,ex,hq,q⟩:=q1
 subst ex
 cases r1 with
 | cons r rr =>
  cases rr
  cases r
  obtain ⟨its,rv,p',hz⟩:=I1.list hq
  refine call_enumerate_list p'.isList fun h' he hit hsz hk=>wpAny_pyIter_enum he ?_
  have I2:Inv X pins σ H1 { s1 with heap:=h' }:=I1.kept (t':=s1.toks) hk
  refine ⟨s1.heap.objs.size+1,[s1.heap.objs.size+1,s1.heap.objs.size],_,_,H1,rfl,I2,turn_enum a (s1.heap.objs.size+1) s1.heap.objs.size,⟨⟨.none,he⟩,hit,Nat.succ_ne_self _⟩,fun b hb=>?_,q⟩
  have e':b=s1.heap.objs.size+1\/b=s1.heap.objs.size:=by simpa using hb
  have hle:s1.heap.objs.size<=b:=by
   rcases e' with z | z
   ·rw [z]; exact Nat.le_add_right _ _
   ·rw [z]; exact Nat.le_refl _
  exact I1.fpOk hle (I1.hok.fresh hle)
theorem boot_zip5:bootBuiltins "zip" = some (.type "zip"):=by decide +kernel
def Itz (K:PySem.W.Frag) (a b:Addr):It :=
 ⟨fun i H=>∃ (xs ys:List V) (x y:V),SqL K H a xs/\SqL K H b ys/\xs[i]? = some x/\ys[i]? = some y,
  fun i H v H'=>∃ T x y,v=.ref T/\H T=none/\H'=upd H T (.tup [x,y])/\(∀ xs,SqL K H a xs->xs[i]? = some x)/\∀ ys,SqL K H b ys->ys[i]? = some y,
  fun i H=>∃ xs ys:List V,SqL K H a xs/\SqL K H b ys/\(xs.length<=i\/ys.length<=i)⟩
theorem turn_zip {P:Program} {w:World} {K:PySem.W.Frag} {elts:List Expr} {kk:Nat} {tpos:Pos} {a b z TI TO i1 i2:Addr} (D:ZipApart z TI TO i1 i2 a b) :
  Turn P w K (.Tuple elts kk tpos) (Itz K a b) [z,TI,TO,i1,i2] z (fun i h=>IsZip h z TI TO .none/\IsPair h TI (.ref i1) (.ref i2)/\(∃ x y,IsPair h TO x y)/\h.IsListIter i1 a i/\h.IsListIter i2 b i) where
 mem:=by simp
 obj:=fun i h st c hc=>by
  obtain ⟨hz,hTI,⟨x,y,hTO⟩,⟨o1,e1,_,d1⟩,⟨o2,e2,_,d2⟩⟩:=st
  have e':c=z\/c=TI\/c=TO\/c=i1\/c=i2:=by simpa using hc
  rcases e' with q | q | q | q | q
  ·rw [q]; exact ⟨_,hz,fun v q=>nomatch q⟩
  ·rw [q]; exact ⟨_,hTI,fun v q=>nomatch q⟩
  ·rw [q]; exact ⟨_,hTO,fun v q=>nomatch q⟩
  ·rw [q]; exact ⟨o1,e1,fun v q=>by rw [d1] at q; cases q⟩
  ·rw [q]; exact ⟨o2,e2,fun v q=>by rw [d2] at q; cases q⟩
 keep:=fun i h h' st k=>by
  obtain ⟨hz,hTI,⟨x,y,hTO⟩,h1,h2⟩:=st
  exact ⟨k z (by simp) _ hz,k TI (by simp) _ hTI,⟨x,y,k TO (by simp) _ hTO⟩,h1.at fun o q=>k i1 (by simp) o q,h2.at fun o q=>k i2 (by simp) o q⟩
 item:=by
  intro X hP hw hK hc i pins s σ H E I hf st hg
  subst hP hw hK
  obtain ⟨hz,hTI,⟨x0,y0,hTO⟩,h1,h2⟩:=st
  obtain ⟨xs,ys,x,y,hqx,hqy,hx,hy⟩:=hg
  obtain ⟨its,rv,p,_⟩:=I.list hqx
  obtain ⟨its2,rv2,p2,_⟩:=I.list hqy
  obtain ⟨u,hu,ru⟩:=rv.get hx
  obtain ⟨u2,hu2,ru2⟩:=rv2.get hy
  have hzl:z < s.heap.objs.size:=Heap.lt_size hz
  refine wpAny_pyNext_zip_item D hz hTI hTO h1 h2 p.isList p2.isList (x:=u) (y:=u2) (by simpa using hu) (by simpa using hu2) fun h' z' TO' h1' h2' hT hsz hk=>?_
  refine ⟨_,rfl,wpAny_letOwnedTupleGo_zip (s:={ s with heap:=h' }) z' fun h'' z'' sb=>?_⟩
  have hT2:h''.get? s.heap.objs.size=some { cls:=.type "tuple",data:=.seq #[u,u2] }:=(sb.2 _ (Nat.ne_of_gt hzl)).trans hT
  have new:ObjOk X.prog X.w (upd H s.heap.objs.size (.tup [x,y])) h'' s.heap.objs.size (.tup [x,y]) :=
   ⟨by show 2<=sizeLine; decide,[u,u2],.cons ru (.cons ru2 .nil),⟨_,hT2,rfl,_,rfl⟩⟩
  have I1:Inv X pins σ (upd H s.heap.objs.size (.tup [x,y])) { s with heap:=h'' } :=
   I.turnedNew (t':=s.toks) (ch:=[z,TI,TO,i1,i2]) (fun c o hb q=>(sb.2 c (fun q'=>hb (by simp [q']))).trans (hk c o (fun q'=>hb (by simp [q'])) (fun q'=>hb (by simp [q'])) (fun q'=>hb (by simp [q'])) (fun q'=>hb (by simp [q'])) q)) hf (Nat.le_refl _) new
  refine ⟨.ref s.heap.objs.size,_,I1,rfl,⟨_,x,y,rfl,I.hok.fresh (Nat.le_refl _),rfl,fun l hl=>by rw [I.list_inj hl hqx]; exact hx,fun l hl=>by rw [I.list_inj hl hqy]; exact hy⟩,⟨z'',?_,⟨u,u2,?_⟩,?_,?_⟩,fun c hcm=>?_⟩
  ·exact (sb.2 _ D.TIz).trans (hk _ _ D.TIz D.TITO D.TIi1 D.TIi2 hTI)
  ·exact (sb.2 _ D.TOz).trans TO'
  ·exact h1'.at fun o q=>(sb.2 _ D.i1z).trans q
  ·exact h2'.at fun o q=>(sb.2 _ D.i2z).trans q
  ·have hlt:c < s.heap.objs.size:=by
    have e':c=z\/c=TI\/c=TO\/c=i1\/c=i2:=by simpa using hcm
    rcases e' with q | q | q | q | q
    ·rw [q]; exact hzl
    ·rw [q]; exact Heap.lt_size hTI
    ·rw [q]; exact Heap.lt_size hTO
    ·rw [q]; obtain ⟨_,e1,_⟩:=h1; exact Heap.lt_size e1
    ·rw [q]; obtain ⟨_,e2,_⟩:=h2; exact Heap.lt_size e2
   rw [upd_ne (Nat.ne_of_lt hlt)]
   exact (hf c hcm).1
 done:=by
  intro X hP hw hK hc i pins s σ H E I hf st hg
  subst hP hw hK
  obtain ⟨hz,hTI,⟨x0,y0,hTO⟩,h1,h2⟩:=st
  obtain ⟨xs,ys,hqx,hqy,hend⟩:=hg
  obtain ⟨its,rv,p,_⟩:=I.list hqx
  obtain ⟨its2,rv2,p2,_⟩:=I.list hqy
  have l1:=rv.length
  have l2:=rv2.length
  have he:its.toArray[i]? = none\/its2.toArray[i]? = none:=by
   rcases hend with q | q
   ·exact .inl (by simp; omega)
   ·exact .inr (by simp; omega)
  exact wpAny_pyNext_zip_end (I.ok.hd hc) D hz hTI hTO h1 h2 p.isList p2.isList he fun h' hk=>⟨rfl,I.turnedL (t':=s.toks) (ch:=[z,TI,TO,i1,i2]) (fun c o hb q =>
   hk c o (fun q'=>hb (by simp [q'])) (fun q'=>hb (by simp [q'])) (fun q'=>hb (by simp [q'])) (fun q'=>hb (by simp [q'])) q) hf⟩
 self:=fun A i s Q E st h=>wpAny_pyIter_zip st.1 h
def iZip (K:PySem.W.Frag) (ta:TA):TI:=fun σ H R=>ta σ H fun vs H1=>∃ a b xs ys,vs=[.ref a,.ref b]/\SqL K H1 a xs/\SqL K H1 b ys/\R (Itz K a b) H1
theorem pi_zip {X:Cx} {e e2:Expr} {ta:TA} {p pos tpos:Pos} {elts:List Expr} {kk:Nat} (hg:Gl X "zip") (hm:X.mg "zip" = none) (ha:PA X [e,e2] ta)
  (hs:starEach [e,e2] X.env=(false,eval e X.env) :: starEach [e2] X.env:=by rfl) (hpl:(backTo pos (starEach [e2] X.env)).any (·.1)=false:=by rfl) :
  PI X (.Tuple elts kk tpos) (.Call (.Name "zip" p) [e,e2] [] pos) (iZip X.K ta):=by
 intro pins s σ H R I h
 refine Call_ (ld_blt I hg hm boot_zip5 (PyProof.Rows.callWith_type1 (thn (ha pos pins s σ H _ I h) fun us s1 ⟨vs,H1,I1,r1,q1⟩=>?_) hs hpl))
 obtain ⟨a,b,xs,ys,ex,hqx,hqy,q⟩:=q1
 subst ex
 cases r1 with
 | cons r rr =>
  cases rr with
  | cons r' rr =>
   cases rr
   cases r
   cases r'
   obtain ⟨its,rv,p1,_⟩:=I1.list hqx
   obtain ⟨its2,rv2,p2,_⟩:=I1.list hqy
   have la:a < s1.heap.objs.size:=p1.lt
   have lb:b < s1.heap.objs.size:=p2.lt
   refine call_zip_2 p1.isList p2.isList fun h' hz hTI hTO h1 h2 hsz hk=>wpAny_pyIter_zip hz ?_
   have I2:Inv X pins σ H1 { s1 with heap:=h' }:=I1.kept (t':=s1.toks) hk
   refine ⟨s1.heap.objs.size+4,[s1.heap.objs.size+4,s1.heap.objs.size+2,s1.heap.objs.size+3,s1.heap.objs.size,s1.heap.objs.size+1],_,_,H1,rfl,I2,turn_zip (PySem.W.ktu_apart s1.heap.objs.size a b la lb),⟨hz,hTI,⟨_,_,hTO⟩,h1,h2⟩,fun c hcm=>?_,q⟩
   have e':c=s1.heap.objs.size+4\/c=s1.heap.objs.size+2\/c=s1.heap.objs.size+3\/c=s1.heap.objs.size\/c=s1.heap.objs.size+1:=by simpa using hcm
   have hle:s1.heap.objs.size<=c:=by
    rcases e' with z | z | z | z | z
    ·rw [z]; exact Nat.le_add_right _ _
    ·rw [z]; exact Nat.le_add_right _ _
    ·rw [z]; exact Nat.le_add_right _ _
    ·rw [z]; exact Nat.le_refl _
    ·rw [z]; exact Nat.le_add_right _ _
   exact I1.fpOk hle (I1.hok.fresh hle)
end L2
section 
namespace Bits
open PySem PyProof.Rows
end Bits
end 
section 
namespace TL
open PySem PySem.Builtin PySem.Builtin.Str PySem.StrLaws
end TL
end 
namespace L2
open PySem PySem.Spec PyProof.Rows
end L2
namespace L2
open PySem PySem.Spec PyProof.Rows
end L2
namespace Att
open PySem PySem.W PySem.Calls PyProof.Rows
end Att
namespace L2
open PySem PySem.Spec PyProof.Rows
end L2
namespace L2
open PySem PySem.Spec PyProof.Rows
end L2
namespace L2
open PySem PySem.Spec PyProof.Rows
def defArgs (s:Stmt):Arguments:=match s with
 | .FunctionDef _ a _ _ _ _ _ _ _ _=>a
 | _=>{ posonlyargs:=[],args:=[],vararg:=none,kwonlyargs:=[],kw_defaults:=[],kwarg:=none,defaults:=[] }
def defBody (s:Stmt):List Stmt:=match s with
 | .FunctionDef _ _ b _ _ _ _ _ _ _=>b
 | _=>[]
def defScope (s:Stmt):Scope:=match s with
 | .FunctionDef _ _ _ _ _ _ sc _ _ _=>sc
 | _=>{ kind:=.function,names:=[],isGenerator:=false,isCoroutine:=false }
abbrev CX0:CXT:=fun _ _ _ _ _ _=>False
abbrev E0:XK:=fun _ _ _=>False
theorem pass0 {X:Cx}:Passes CX0 X E0:=fun _ _ _ _ _ _ _ h=>h.elim
structure Fun (K:PySem.W.Frag) (x qual:Str) (st:Stmt) (f:Addr) (fd:FuncData):Prop where
 ex:∃ (oc:Value) (od:Option Addr) (kV doc pm:Value) (an:Option Addr) (cdv ct:Value) (osl:Array (Option Value)),
  fd=PySem.W.fnOf x qual (defArgs st) (defBody st) (defScope st) .none kV doc pm an cdv ct/\K.lookup f=some ⟨oc,od,.func fd,osl⟩/\PySem.W.codeIn K cdv qual=true
 kp:PySem.W.keepIn K (.ref f)=true
section
variable {P:Program} {w:World} {K:PySem.W.Frag} {mg:Str->Option Value} {base:Heap}
theorem Fun.ok {x qual:Str} {st:Stmt} {f:Addr} {fd:FuncData} {N ps:List Str} {k:Nat} {sp:Sp} (F:Fun K x qual st f fd) (S:FnScope N ps (defScope st)) (len:∀ vs H Q E,sp vs H Q E->vs.length=ps.length)
  (hbody:∀ (cdv:Value) (A:Around) (outer:List Env) (s:Shared) (H:Hp) (vs:List V) (Q:VK) (E:XK),Room k (A.deeper (envOfC qual (defScope st) s.heap.objs.size f cdv))->sp vs H Q E ->
   ∃ t,PSs (cxOf CX0 P w K mg base N qual (defScope st) f cdv A outer s H E).nox (defBody st) t/\t { nx:=fun _ H'=>Q .non H',rt:=Q } (start N vs) H):FnOk P w K mg base CX0 (k+1) f fd ps sp:=by
 obtain ⟨oc,od,kV,doc,pm,an,cdv,ct,osl,rfl,lk,hcd⟩:=F.ex
 refine fn_of lk hcd S len fun A outer s H vs Q E hr hsp=>?_
 obtain ⟨t,h,q⟩:=hbody cdv A outer s H vs Q E hr hsp
 exact ⟨t,h.nox,q⟩
theorem Fun.binds {x qual:Str} {st:Stmt} {f:Addr} {fd:FuncData} {ps:List Str} (F:Fun K x qual st f fd)
  (h:∀ (kV doc pm:Value) (an:Option Addr) (cdv ct:Value) (us:List Value),us.length=ps.length->bindArgs (PySem.W.fnOf x qual (defArgs st) (defBody st) (defScope st) .none kV doc pm an cdv ct) ⟨us,[]⟩=pure (ps.zip us)):Binds K fd ps []:=by
 obtain ⟨oc,od,kV,doc,pm,an,cdv,ct,osl,rfl,lk,hcd⟩:=F.ex
 exact .all (h kV doc pm an cdv ct)
theorem fun_mk {x qual:Str} {st:Stmt} {f:Addr} {oc:Value} {od an:Option Addr} {osl:Array (Option Value)} {kV doc pm cdv ct:Value} (l:K.lookup f=some ⟨oc,od,.func (PySem.W.fnOf x qual (defArgs st) (defBody st) (defScope st) .none kV doc pm an cdv ct),osl⟩)
  (c:PySem.W.codeIn K cdv qual=true) (k:PySem.W.keepIn K (.ref f)=true):Fun K x qual st f (PySem.W.fnOf x qual (defArgs st) (defBody st) (defScope st) .none kV doc pm an cdv ct):=⟨⟨oc,od,kV,doc,pm,an,cdv,ct,osl,rfl,l,c⟩,k⟩
end
section
variable {X:Cx}
theorem pv (i:Nat) {x:Str} {pos:Pos} (hN:X.N[i]? = some x:=by rfl) (hv:Vis X.env.scope x:=by first | exact Or.inl rfl | exact Or.inr (Or.inl rfl) | exact Or.inr (Or.inr rfl)) (hd:(x == ("__debug__" : Str))=false:=by decide)
  (hcd:(x == ("__classdict__" : Str))=false:=by decide):PE X (.Name x pos) (tVar i):=pe_var hN hv hd hcd
end
theorem iteF {A B:Prop} (h:B):if false=true then A else B:=by
 rw [if_neg Bool.false_ne_true]
 exact h
theorem iteT {A B:Prop} (h:A):if true=true then A else B:=by
 rw [if_pos rfl]
 exact h
theorem ite2 {c A B:Prop} [Decidable c] (h1:c->A) (h2:¬ c->B):if c then A else B:=by
 by_cases h:c
 ·rw [if_pos h]
  exact h1 h
 ·rw [if_neg h]
  exact h2 h
def Same (H H':Hp):Prop:=∀ b o,H b=some o->H' b=some o
theorem Same.refl (H:Hp):Same H H:=fun _ _ h=>h
theorem Same.trans {H H1 H2:Hp} (a:Same H H1) (b:Same H1 H2):Same H H2:=fun c o h=>b c o (a c o h)
theorem Same.seq {K:PySem.W.Frag} {H H':Hp} {a:Addr} {xs:List V} (e:Same H H') (h:SqL K H a xs):SqL K H' a xs:=by
 rcases h with (h | ⟨o,h⟩) | h
 ·exact .inl (.inl (e _ _ h))
 ·exact .inl (.inr ⟨o,e _ _ h⟩)
 ·exact .inr h
end L2
section
set_option linter.all false
namespace L2
open PySem PySem.Spec PyProof.Rows
open PySem.W (WData Codec OpenSpec Well WellAll ReadsW ReadsAllW)
mutual
inductive Dw (K:PySem.W.Frag) (H:Hp):V->WData->Prop
 | non:Dw K H .non .none
 | bl (b:Bool):Dw K H (.bl b) (.bool b)
 | int (i:Int):Dw K H (.int i) (.int i)
 | str (x:Str):Dw K H (.str x) (.str x)
 | byt (b:Array UInt8):Dw K H (.byt b) (.bytes b.toList)
 | lst {a:Addr} {xs:List V} {ds:List WData}:SqL K H a xs->DwAll K H xs ds->Dw K H (.ref a) (.list ds)
 | tup {a:Addr} {xs:List V} {ds:List WData}:SqT K H a xs->DwAll K H xs ds->Dw K H (.ref a) (.tuple ds)
inductive DwAll (K:PySem.W.Frag) (H:Hp):List V->List WData->Prop
 | nil:DwAll K H [] []
 | cons {v:V} {vs:List V} {d:WData} {ds:List WData}:Dw K H v d->DwAll K H vs ds->DwAll K H (v :: vs) (d :: ds)
end
theorem dw_ints {K:PySem.W.Frag} {H:Hp}:∀ ns:List Int,DwAll K H (ns.map V.int) (ns.map WData.int)
 | []=>.nil
 | n :: r=>.cons (.int n) (dw_ints r)
theorem ints_dw {K:PySem.W.Frag} {H:Hp}:∀ (ns:List Int) (xs:List V),DwAll K H xs (ns.map WData.int)->xs=ns.map V.int
 | [],xs,h=>by
  cases h
  rfl
 | n :: r,xs,h=>by
  cases h with
  | cons h1 h2 =>
   cases h1
   rw [ints_dw r _ h2] <;> rfl
section
variable {P:Program} {w:World} {K:PySem.W.Frag} {H:Hp} {h:Heap} {R:PySem.W.WRecords} {cl:Str->Option Addr}
theorem sqL_at {a:Addr} {xs:List V} (hok:HOk P w H h) (KX:K.In h) (q:SqL K H a xs):∃ (its:List Value) (o:Obj) (n:Nat),Vals xs its/\h.get? a=some o/\o.cls=.type "list"/\o.data=.seq its.toArray n:=by
 rcases q with q | ⟨o,its,n,e,hc,_,hd,_,hv⟩
 ·obtain ⟨_,its,n,hv,e⟩:=(show ObjOk P w H h a (.lst xs) from q.ok hok)
  exact ⟨its,_,n,hv,e,rfl,rfl⟩
 ·exact ⟨its.toList,o,n,hv,KX _ _ e,hc,by simp [hd]⟩
theorem sqT_at {a:Addr} {xs:List V} (hok:HOk P w H h) (KX:K.In h) (q:SqT K H a xs):∃ (its:List Value) (o:Obj) (n:Nat),Vals xs its/\h.get? a=some o/\o.cls=.type "tuple"/\o.data=.seq its.toArray n:=by
 rcases q with q | ⟨o,its,n,e,hc,hd,_,hv⟩
 ·obtain ⟨_,its,hv,o,e,hc,n,hd⟩:=(show ObjOk P w H h a (.tup xs) from q.ok hok)
  exact ⟨its,o,n,hv,e,hc,hd⟩
 ·exact ⟨its.toList,o,n,hv,KX _ _ e,hc,by simp [hd]⟩
mutual
theorem Dw.reads (hok:HOk P w H h) (KX:K.In h):∀ (d:WData) (v:V) (u:Value),Dw K H v d->RelV v u->∃ as,ReadsW R cl h u d as
 | .none,_,_,x,r=>by
  cases x
  cases r
  exact ⟨_,ReadsW.none⟩
 | .bool b,_,_,x,r=>by
  cases x
  cases r
  exact ⟨_,ReadsW.bool b⟩
 | .int i,_,_,x,r=>by
  cases x
  obtain ⟨t,rfl⟩:=r
  exact ⟨_,ReadsW.int i t⟩
 | .str s,_,_,x,r=>by
  cases x
  obtain ⟨t,rfl⟩:=r
  exact ⟨_,ReadsW.str s t⟩
 | .bytes b,_,_,x,r=>by
  cases x
  obtain ⟨t,rfl⟩:=r
  exact ⟨_,ReadsW.bytes _ t⟩
 | .list ds,_,_,x,r=>by
  cases x with
  | lst hs ha =>
   cases r
   obtain ⟨its,o,n,rv,ho,hc,hd⟩:=sqL_at hok KX hs
   obtain ⟨as,hr⟩:=Dw.readsAll hok KX ds _ its ha rv
   exact ⟨_,ReadsW.list ho hc hd hr⟩
 | .tuple ds,_,_,x,r=>by
  cases x with
  | tup hs ha =>
   cases r
   obtain ⟨its,o,n,rv,ho,hc,hd⟩:=sqT_at hok KX hs
   obtain ⟨as,hr⟩:=Dw.readsAll hok KX ds _ its ha rv
   exact ⟨_,ReadsW.tuple ho hc hd hr⟩
 | .float _,_,_,x,_=>by cases x
 | .dict _,_,_,x,_=>by cases x
 | .bytearray _,_,_,x,_=>by cases x
 | .set _,_,_,x,_=>by cases x
 | .frozenset _,_,_,x,_=>by cases x
 | .obj _ _,_,_,x,_=>by cases x
theorem Dw.readsAll (hok:HOk P w H h) (KX:K.In h):∀ (ds:List WData) (vs:List V) (us:List Value),DwAll K H vs ds->Vals vs us->∃ as,ReadsAllW R cl h us ds as
 | [],_,_,x,r=>by
  cases x
  cases r
  exact ⟨_,ReadsAllW.nil⟩
 | d :: ds,_,_,x,r=>by
  cases x with
  | cons h1 h2 =>
   cases r with
   | cons r1 r2 =>
    obtain ⟨as,q1⟩:=Dw.reads hok KX d _ _ h1 r1
    obtain ⟨bs,q2⟩:=Dw.readsAll hok KX ds _ _ h2 r2
    exact ⟨_,ReadsAllW.cons q1 q2⟩
end
end
mutual
def plW:WData->Bool
 | .none=>true
 | .bool _=>true
 | .int _=>true
 | .str _=>true
 | .bytes _=>true
 | .list xs=>plWs xs
 | .tuple xs=>plWs xs
 | _=>false
def plWs:List WData->Bool
 | []=>true
 | x :: r=>plW x && plWs r
end
theorem plWs_map {α:Type} {f:α->WData} (h:∀ a,plW (f a)=true):∀ l:List α,plWs (l.map f)=true
 | []=>rfl
 | x :: r=>by
  show (plW (f x) && plWs (r.map f))=true
  rw [h x,plWs_map h r] <;> rfl
theorem pl_enc:∀ (c:Codec) (a:c.denote),plW (c.enc a)=true
 | .unit,_=>rfl
 | .bool,_=>rfl
 | .int _ _,_=>rfl
 | .nat _ _,_=>rfl
 | .u8,_=>rfl
 | .bytes _ _,_=>rfl
 | .text _ _ _ _,_=>rfl
 | .list _ _ c,a=>plWs_map (fun x=>pl_enc c x) a
 | .pair c d,a=>by
  show (plW (c.enc a.1) && (plW (d.enc a.2) && true))=true
  rw [pl_enc c a.1,pl_enc d a.2] <;> rfl
 | .triple c d e,a=>by
  show (plW (c.enc a.1) && (plW (d.enc a.2.1) && (plW (e.enc a.2.2) && true)))=true
  rw [pl_enc c a.1,pl_enc d a.2.1,pl_enc e a.2.2] <;> rfl
 | .option c,none=>rfl
 | .option c,some x=>pl_enc c x
theorem pl_encAll:∀ (cs:List Codec) (a:Codec.denoteAll cs),plWs (Codec.encAll cs a)=true
 | [],_=>rfl
 | c :: cs,a=>by
  show (plW (c.enc a.1) && plWs (Codec.encAll cs a.2))=true
  rw [pl_enc c a.1,pl_encAll cs a.2] <;> rfl
theorem weight_mem:∀ {xs:List WData} {d:WData},d∈xs->d.weight<=WData.weightAll xs
 | [],d,h=>absurd h (by simp)
 | x :: r,d,h=>by
  show d.weight<=x.weight+1+WData.weightAll r
  rcases List.mem_cons.mp h with e | m
  ·rw [e]
   omega
  ·have z:=weight_mem m
   omega
def toV:Value->V
 | .none=>.non
 | .bool b=>.bl b
 | .int i _=>.int i
 | .str x _=>.str x
 | .bytes b _=>.byt b
 | .ref a=>.ref a
 | _=>.non
def OkU (A:List Addr):Value->Prop
 | .none=>True
 | .bool _=>True
 | .int _ _=>True
 | .str _ _=>True
 | .bytes _ _=>True
 | .ref a=>a∈A
 | _=>False
theorem OkU.mono {A B:List Addr} (h:∀ a∈A,a∈B):∀ {u:Value},OkU A u->OkU B u:=fun {u} x=>by
 cases u with
 | ref a=>exact h a x
 | none=>trivial
 | bool b=>trivial
 | int i t=>trivial
 | str s t=>trivial
 | bytes b t=>trivial
 | _=>exact False.elim x
theorem relV_toV {A:List Addr} {u:Value} (x:OkU A u):RelV (toV u) u:=by
 cases u with
 | ref a=>rfl
 | none=>rfl
 | bool b=>rfl
 | int i t=>exact ⟨t,rfl⟩
 | str s t=>exact ⟨t,rfl⟩
 | bytes b t=>exact ⟨t,rfl⟩
 | _=>exact False.elim x
theorem vals_toV {A:List Addr}:∀ {vs:List Value},(∀ u∈vs,OkU A u)->Vals (vs.map toV) vs
 | [],_=>.nil
 | u :: r,h=>.cons (relV_toV (h u (List.mem_cons_self ..))) (vals_toV fun x hx=>h x (List.mem_cons_of_mem _ hx))
def ArgOb (h:Heap) (A:List Addr) (a:Addr):Prop:=∃ vs:List Value,vs.length<=sizeLine/\(∀ u∈vs,OkU A u) /\
 (h.get? a=some { cls:=.type "list",data:=.seq vs.toArray }\/h.get? a=some { cls:=.type "tuple",data:=.seq vs.toArray })
theorem ArgOb.mono {h:Heap} {A B:List Addr} {a:Addr} (k:∀ a∈A,a∈B) (x:ArgOb h A a):ArgOb h B a:=by
 obtain ⟨vs,h1,h2,h3⟩:=x
 exact ⟨vs,h1,fun u hu=>(h2 u hu).mono k,h3⟩
theorem wellAll_len {P:Params} {h:Heap}:∀ {vs:List Value} {ds:List WData},WellAll P h vs ds->vs.length=ds.length
 | _,_,.nil=>rfl
 | _,_,.cons _ b=>by
  show _+1=_+1
  rw [wellAll_len b]
theorem well_list {P:Params} {h:Heap} {v:Value} {ds:List WData} (x:Well P h v (.list ds)):∃ (a:Addr) (vs:List Value),v=.ref a/\h.get? a=some { cls:=.type "list",data:=.seq vs.toArray }/\WellAll P h vs ds:=by
 cases x with
 | list ho hall=>exact ⟨_,_,rfl,ho,hall⟩
theorem well_tuple {P:Params} {h:Heap} {v:Value} {ds:List WData} (x:Well P h v (.tuple ds)):∃ (a:Addr) (vs:List Value),v=.ref a/\h.get? a=some { cls:=.type "tuple",data:=.seq vs.toArray }/\WellAll P h vs ds:=by
 cases x with
 | tuple ho hall=>exact ⟨_,_,rfl,ho,hall⟩
theorem well_cons {P:Params} {h:Heap} {us:List Value} {d:WData} {ds:List WData} (x:WellAll P h us (d :: ds)):∃ (v:Value) (vs:List Value),us=v :: vs/\Well P h v d/\WellAll P h vs ds:=by
 cases x with
 | cons a b=>exact ⟨_,_,rfl,a,b⟩
theorem line_of {n:Nat} (h:n<=1048576):n<=sizeLine:=Nat.le_trans h (by decide)
section
variable {P:Params} {h:Heap}
mutual
theorem area_one:∀ (d:WData) (v:Value),Well P h v d->plW d=true->d.weight<=1048576->∃ A:List Addr,OkU A v/\∀ a∈A,ArgOb h A a
 | .none,_,x,_,_=>by
  cases x
  exact ⟨[],trivial,fun a m=>absurd m (by simp)⟩
 | .bool b,_,x,_,_=>by
  cases x
  exact ⟨[],trivial,fun a m=>absurd m (by simp)⟩
 | .int i,_,x,_,_=>by
  cases x
  exact ⟨[],trivial,fun a m=>absurd m (by simp)⟩
 | .str s,_,x,_,_=>by
  cases x
  exact ⟨[],trivial,fun a m=>absurd m (by simp)⟩
 | .bytes b,_,x,_,_=>by
  cases x
  exact ⟨[],trivial,fun a m=>absurd m (by simp)⟩
 | .list ds,_,x,p,z=>by
  obtain ⟨a,vs,rfl,ho,hall⟩:=well_list x
  have z2:WData.weightAll ds<=1048576:=z
  obtain ⟨A,h1,h2⟩:=area_all ds _ hall p fun d hd=>Nat.le_trans (weight_mem hd) z2
  have k:∀ b∈A,b∈a :: A:=fun b hb=>List.mem_cons_of_mem _ hb
  refine ⟨a :: A,List.mem_cons_self ..,fun b hb=>?_⟩
  rcases List.mem_cons.mp hb with e | m
  ·rw [e]
   exact ⟨vs,line_of (by rw [wellAll_len hall]; exact Nat.le_trans (PySem.W.length_le_weightAllW ds) z2),fun u hu=>(h1 u hu).mono k,.inl ho⟩
  ·exact (h2 b m).mono k
 | .tuple ds,_,x,p,z=>by
  obtain ⟨a,vs,rfl,ho,hall⟩:=well_tuple x
  have z2:WData.weightAll ds<=1048576:=z
  obtain ⟨A,h1,h2⟩:=area_all ds _ hall p fun d hd=>Nat.le_trans (weight_mem hd) z2
  have k:∀ b∈A,b∈a :: A:=fun b hb=>List.mem_cons_of_mem _ hb
  refine ⟨a :: A,List.mem_cons_self ..,fun b hb=>?_⟩
  rcases List.mem_cons.mp hb with e | m
  ·rw [e]
   exact ⟨vs,line_of (by rw [wellAll_len hall]; exact Nat.le_trans (PySem.W.length_le_weightAllW ds) z2),fun u hu=>(h1 u hu).mono k,.inr ho⟩
  ·exact (h2 b m).mono k
 | .float _,_,_,p,_=>Bool.noConfusion (show false=true from p)
 | .dict _,_,_,p,_=>Bool.noConfusion (show false=true from p)
 | .bytearray _,_,_,p,_=>Bool.noConfusion (show false=true from p)
 | .set _,_,_,p,_=>Bool.noConfusion (show false=true from p)
 | .frozenset _,_,_,p,_=>Bool.noConfusion (show false=true from p)
 | .obj _ _,_,_,p,_=>Bool.noConfusion (show false=true from p)
theorem area_all:∀ (ds:List WData) (vs:List Value),WellAll P h vs ds->plWs ds=true->(∀ d∈ds,d.weight<=1048576)->∃ A:List Addr,(∀ u∈vs,OkU A u)/\∀ a∈A,ArgOb h A a
 | [],_,x,_,_=>by
  cases x
  exact ⟨[],fun u m=>absurd m (by simp),fun a m=>absurd m (by simp)⟩
 | d :: ds,_,x,p,z=>by
  obtain ⟨v,vs,rfl,x1,x2⟩:=well_cons x
  have q:plW d=true/\plWs ds=true:=Bool.and_eq_true_iff.mp p
  obtain ⟨A,a1,a2⟩:=area_one d v x1 q.1 (z d (List.mem_cons_self ..))
  obtain ⟨B,b1,b2⟩:=area_all ds vs x2 q.2 fun e he=>z e (List.mem_cons_of_mem _ he)
  have kA:∀ b∈A,b∈A ++ B:=fun b hb=>List.mem_append.mpr (.inl hb)
  have kB:∀ b∈B,b∈A ++ B:=fun b hb=>List.mem_append.mpr (.inr hb)
  refine ⟨A ++ B,fun u hu=>?_,fun b hb=>?_⟩
  ·rcases List.mem_cons.mp hu with e | m
   ·rw [e]
    exact a1.mono kA
   ·exact (b1 u m).mono kB
  ·rcases List.mem_append.mp hb with m | m
   ·exact (a2 b m).mono kA
   ·exact (b2 b m).mono kB
end
end
def hoOf (o:Obj):Option HO:=match o.data with
 | .seq vs _=>if (o.cls == Value.type "list")=true then some (.frz o (.lst (vs.toList.map toV))) else some (.frz o (.tup (vs.toList.map toV)))
 | _=>none
def argH (K:PySem.W.Frag) (h:Heap) (A:List Addr):Hp:=fun b=>if b∈A then (if (K.lookup b).isNone=true then (h.get? b).bind hoOf else none) else none
def OnlyF (H:Hp):Prop:=∀ b,H b=none\/∃ o u,H b=some (.frz o u)
theorem hoOf_lst (vs:List Value):hoOf { cls:=.type "list",data:=.seq vs.toArray }=some (.frz { cls:=.type "list",data:=.seq vs.toArray } (.lst (vs.map toV))):=by
 show (if (Value.type "list" == Value.type "list")=true then some (HO.frz { cls:=.type "list",data:=.seq vs.toArray } (.lst (vs.toArray.toList.map toV))) else some (HO.frz { cls:=.type "list",data:=.seq vs.toArray } (.tup (vs.toArray.toList.map toV))))=_
 rw [if_pos (beq_self_eq_true _)]
theorem hoOf_tup (vs:List Value):hoOf { cls:=.type "tuple",data:=.seq vs.toArray }=some (.frz { cls:=.type "tuple",data:=.seq vs.toArray } (.tup (vs.map toV))):=by
 show (if (Value.type "tuple" == Value.type "list")=true then some (HO.frz { cls:=.type "tuple",data:=.seq vs.toArray } (.lst (vs.toArray.toList.map toV))) else some (HO.frz { cls:=.type "tuple",data:=.seq vs.toArray } (.tup (vs.toArray.toList.map toV))))=_
 rw [if_neg (by decide)]
section
variable {P:Program} {w:World} {K:PySem.W.Frag} {h:Heap} {A:List Addr}
theorem argH_at {b:Addr} {o:Obj} (hb:b∈A) (hk:K.lookup b=none) (e:h.get? b=some o):argH K h A b=hoOf o:=by
 unfold argH
 rw [if_pos hb,hk,if_pos (show (none:Option Obj).isNone=true from rfl),e] <;> rfl
theorem of_argH {b:Addr} {u:HO} (q:argH K h A b=some u):b∈A/\K.lookup b=none:=by
 unfold argH at q
 by_cases hb:b∈A
 ·rw [if_pos hb] at q
  cases hk:K.lookup b with
  | none=>exact ⟨hb,rfl⟩
  | some o =>
   rw [hk,if_neg (by simp)] at q
   cases q
 ·rw [if_neg hb] at q
  cases q
theorem argH_is (ar:∀ a∈A,ArgOb h A a) {b:Addr} {u:HO} (q:argH K h A b=some u):K.lookup b=none/\∃ vs:List Value,vs.length<=sizeLine/\(∀ u∈vs,OkU A u) /\
  ((h.get? b=some { cls:=.type "list",data:=.seq vs.toArray }/\u=.frz { cls:=.type "list",data:=.seq vs.toArray } (.lst (vs.map toV))) \/
   (h.get? b=some { cls:=.type "tuple",data:=.seq vs.toArray }/\u=.frz { cls:=.type "tuple",data:=.seq vs.toArray } (.tup (vs.map toV)))):=by
 obtain ⟨hb,hk⟩:=of_argH q
 obtain ⟨vs,h1,h2,h3⟩:=ar b hb
 refine ⟨hk,vs,h1,h2,?_⟩
 rcases h3 with e | e
 ·rw [argH_at hb hk e,hoOf_lst] at q
  exact .inl ⟨e,(Option.some.inj q).symm⟩
 ·rw [argH_at hb hk e,hoOf_tup] at q
  exact .inr ⟨e,(Option.some.inj q).symm⟩
theorem argH_only (ar:∀ a∈A,ArgOb h A a):OnlyF (argH K h A):=fun b=>by
 cases q:argH K h A b with
 | none=>exact .inl rfl
 | some u =>
  obtain ⟨_,vs,_,_,⟨_,e⟩ | ⟨_,e⟩⟩:=argH_is ar q
  ·exact .inr ⟨_,_,by rw [e]⟩
  ·exact .inr ⟨_,_,by rw [e]⟩
theorem argH_ok (ar:∀ a∈A,ArgOb h A a):HOk P w (argH K h A) h:=fun b u q=>by
 obtain ⟨_,vs,h1,h2,⟨e,rfl⟩ | ⟨e,rfl⟩⟩:=argH_is ar q
 ·exact ⟨e,by rw [List.length_map]; exact h1,vs,_,vals_toV h2,e⟩
 ·exact ⟨e,by rw [List.length_map]; exact h1,vs,vals_toV h2,_,e,rfl,_,rfl⟩
theorem seq_inj {c c':Value} {vs us:List Value} (e:(some { cls:=c,data:=.seq vs.toArray }:Option Obj)=some { cls:=c',data:=.seq us.toArray }):c=c'/\vs=us:=by
 have e1:=Option.some.inj e
 have e2:c=c':=congrArg Obj.cls e1
 have e3:Data.seq vs.toArray=Data.seq us.toArray:=congrArg Obj.data e1
 injection e3 with e4
 refine ⟨e2,?_⟩
 have e5:=congrArg Array.toList e4
 simpa using e5
theorem argL (KX:K.In h) (ar:∀ a∈A,ArgOb h A a) {a:Addr} {vs:List Value} (ha:a∈A) (e:h.get? a=some { cls:=.type "list",data:=.seq vs.toArray }):(∀ u∈vs,OkU A u)/\SqL K (argH K h A) a (vs.map toV):=by
 obtain ⟨us,h1,h2,h3⟩:=ar a ha
 have hu:us=vs:=by
  rcases h3 with q | q
  ·rw [e] at q
   exact (seq_inj q).2.symm
  ·rw [e] at q
   exact absurd (Value.type.inj (seq_inj q).1) (by decide)
 subst hu
 refine ⟨h2,?_⟩
 cases hk:K.lookup a with
 | none=>exact .inl (.inr ⟨_,by rw [argH_at ha hk e,hoOf_lst]⟩)
 | some o =>
  have e2:=KX a o hk
  rw [e] at e2
  obtain rfl:=Option.some.inj e2
  exact .inr ⟨_,us.toArray,_,hk,rfl,rfl,rfl,by rw [List.size_toArray]; exact h1,by simpa using vals_toV h2⟩
theorem argT (KX:K.In h) (ar:∀ a∈A,ArgOb h A a) {a:Addr} {vs:List Value} (ha:a∈A) (e:h.get? a=some { cls:=.type "tuple",data:=.seq vs.toArray }):(∀ u∈vs,OkU A u)/\SqT K (argH K h A) a (vs.map toV):=by
 obtain ⟨us,h1,h2,h3⟩:=ar a ha
 have hu:us=vs:=by
  rcases h3 with q | q
  ·rw [e] at q
   exact absurd (Value.type.inj (seq_inj q).1) (by decide)
  ·rw [e] at q
   exact (seq_inj q).2.symm
 subst hu
 refine ⟨h2,?_⟩
 cases hk:K.lookup a with
 | none=>exact .inl (.inr ⟨_,by rw [argH_at ha hk e,hoOf_tup]⟩)
 | some o =>
  have e2:=KX a o hk
  rw [e] at e2
  obtain rfl:=Option.some.inj e2
  exact .inr ⟨_,us.toArray,_,hk,rfl,rfl,by rw [List.size_toArray]; exact h1,by simpa using vals_toV h2⟩
mutual
theorem dw_one {Pm:Params} (KX:K.In h) (ar:∀ a∈A,ArgOb h A a):∀ (d:WData) (v:Value),Well Pm h v d->plW d=true->OkU A v->Dw K (argH K h A) (toV v) d
 | .none,_,x,_,_=>by
  cases x
  exact .non
 | .bool b,_,x,_,_=>by
  cases x
  exact .bl b
 | .int i,_,x,_,_=>by
  cases x
  exact .int i
 | .str s,_,x,_,_=>by
  cases x
  exact .str s
 | .bytes b,_,x,_,_=>by
  cases x
  have z:=Dw.byt (K:=K) (H:=argH K h A) b.toArray
  exact z
 | .list ds,_,x,p,hu=>by
  obtain ⟨a,vs,rfl,ho,hall⟩:=well_list x
  obtain ⟨h2,hs⟩:=argL KX ar hu ho
  exact .lst hs (dw_all KX ar ds _ hall p h2)
 | .tuple ds,_,x,p,hu=>by
  obtain ⟨a,vs,rfl,ho,hall⟩:=well_tuple x
  obtain ⟨h2,hs⟩:=argT KX ar hu ho
  exact .tup hs (dw_all KX ar ds _ hall p h2)
 | .float _,_,_,p,_=>Bool.noConfusion (show false=true from p)
 | .dict _,_,_,p,_=>Bool.noConfusion (show false=true from p)
 | .bytearray _,_,_,p,_=>Bool.noConfusion (show false=true from p)
 | .set _,_,_,p,_=>Bool.noConfusion (show false=true from p)
 | .frozenset _,_,_,p,_=>Bool.noConfusion (show false=true from p)
 | .obj _ _,_,_,p,_=>Bool.noConfusion (show false=true from p)
theorem dw_all {Pm:Params} (KX:K.In h) (ar:∀ a∈A,ArgOb h A a):∀ (ds:List WData) (vs:List Value),WellAll Pm h vs ds->plWs ds=true->(∀ u∈vs,OkU A u)->DwAll K (argH K h A) (vs.map toV) ds
 | [],_,x,_,_=>by
  cases x
  exact .nil
 | d :: ds,_,x,p,hu=>by
  obtain ⟨v,vs,rfl,x1,x2⟩:=well_cons x
  have q:plW d=true/\plWs ds=true:=Bool.and_eq_true_iff.mp p
  exact .cons (dw_one KX ar d v x1 q.1 (hu _ (List.mem_cons_self ..))) (dw_all KX ar ds vs x2 q.2 fun u m=>hu u (List.mem_cons_of_mem _ m))
end
end
theorem spec_call {P:Program} {w:World} {K:PySem.W.Frag} {mg mb:Str->Option Value} {CX:CXT} {k:Nat} {fa:Addr} {fd:FuncData} {ps:List Str} {sp:Sp} {s₁:Shared} {vals:List Value} {ds:List WData} {R:PySem.W.WRecords} {cl:Str->Option Addr} {d0:WData}
  (KX:K.In s₁.heap) (hns:s₁.heap.Ns mainGlobals mg) (hb:s₁.heap.Ns builtinsNs mb) (hbb:∀ x:Str,x≠"__name__"->mb x=bootBuiltins x) (hlim:s₁.heap.NoLimit) (hg:s₁.gens = #[])
  (hwl:WellAll w.params s₁.heap vals ds) (hpl:plWs ds=true) (hwt:∀ d∈ds,d.weight<=1048576) (hr:Room k callerA)
  (F:∀ base:Heap,K.In base->base.Ns mainGlobals mg->FnOk P w K mg base CX k fa fd ps sp) (hbind:∀ (s:Shared) (us:List Value),us.length=ps.length->BindsTo s fd ⟨us,[]⟩ (ps.zip us)) (hlen:ds.length=ps.length)
  (hsp:∀ (H:Hp) (xs:List V),OnlyF H->DwAll K H xs ds->sp xs H (fun v H'=>Dw K H' v d0) fun _ _ _=>False)
  (hCX:∀ H e s',CX [] H s₁ (fun _ _ _=>False) e s'->False) :
  codeAny (model P w) callerA (.call (.ref fa) ⟨vals,[]⟩) (fun r s'=>∃ u as,r=.ok (.ret u)/\ReadsW R cl s'.heap u d0 as/\OldK s₁.heap s'.heap/\s'.os=s₁.os/\AllBare s'.gens) s₁:=by
 obtain ⟨A,ho,ar⟩:=area_all ds vals hwl hpl hwt
 have hO:OnlyF (argH K s₁.heap A):=argH_only ar
 have hok:HOk P w (argH K s₁.heap A) s₁.heap:=argH_ok ar
 have hS:=dw_all KX ar ds vals hwl hpl ho
 have hV:=vals_toV ho
 have hK:∀ b u,argH K s₁.heap A b=some u->K.lookup b=none:=fun b u q=>(argH_is ar q).1
 have noA:∀ {b:Addr} {o:Obj} {es:Array DictEntry} {ep:Nat},s₁.heap.get? b=some o->o.data=.dict es ep->argH K s₁.heap A b=none:=fun {b o es ep} e d=>by
  cases q:argH K s₁.heap A b with
  | none=>rfl
  | some u =>
   obtain ⟨_,vs,_,_,⟨e2,_⟩ | ⟨e2,_⟩⟩:=argH_is ar q
   ·rw [e2] at e
    cases e
    have d':Data.seq vs.toArray _=Data.dict es ep:=d
    cases d'
   ·rw [e2] at e
    cases e
    have d':Data.seq vs.toArray _=Data.dict es ep:=d
    cases d'
 generalize argH K s₁.heap A=H at hO hok hS hK noA
 have base_of:∀ {b:Addr} {o:Obj},s₁.heap.get? b=some o->H b=none->(hidT s₁.heap H).get? b=some o:=fun e n=>hidT_get e n
 have nsK:∀ {b:Addr} {m:Str->Option Value},s₁.heap.Ns b m->(hidT s₁.heap H).Ns b m:=fun {b m} ⟨o,es,ep,e,d,r⟩=>⟨o,es,ep,base_of e (noA e d),d,r⟩
 have nK:∀ b o,K.lookup b=some o->H b=none:=fun b o e=>by
  cases q:H b with
  | none=>rfl
  | some u =>
   rw [hK b u q] at e
   cases e
 have hKb:K.In (hidT s₁.heap H):=fun b o e=>base_of (KX b o e) (nK b o e)
 have hM:Mod K mg (hidT s₁.heap H):=⟨hKb,nsK hns,⟨mb,nsK hb,hbb⟩,let ⟨mc,h1,h2⟩:=hlim; ⟨mc,nsK h1,h2⟩⟩
 have e0:Env0 P w K mg (hidT s₁.heap H) callerA [] s₁ H:=⟨rfl,hM,fun b o e=>of_hidT e,Nat.le_of_eq (hidT_size _ _),trivial,fun b hb=>absurd (show b∈([]:List Addr) from hb) (by simp),hok,.of_eq hg⟩
 have hl:vals.length=ps.length:=by rw [wellAll_len hwl]; exact hlen
 refine codeAny_mono ((F _ hKb (nsK hns)).run callerA [] s₁ H ⟨vals,[]⟩ vals (vals.map toV) _ _ hr e0 (hbind s₁ vals hl) hV (hsp H _ hO hS)) fun r s' x=>?_
 cases r with
 | error e=>exact (hCX H e s' x).elim
 | ok fl =>
  cases fl with
  | next=>exact False.elim x
  | brk=>exact False.elim x
  | cont=>exact False.elim x
  | ret u =>
   obtain ⟨v,H',os,bare,un,hok',r',q⟩:=x
   have kept:∀ b o,s₁.heap.get? b=some o->s'.heap.get? b=some o:=fun b o e=>by
    cases q2:H b with
    | none=>exact un.keep b o e q2 (by intro z; exact absurd (show b∈([]:List Addr) from z) (by simp)) (by simp)
    | some u2 =>
     rcases hO b with z | ⟨ob,u3,z⟩
     ·rw [q2] at z
      cases z
     ·have z2:=un.frzs b ob _ z
      obtain ⟨e1,_⟩:=hok b _ z
      obtain ⟨e2,_⟩:=hok' b _ z2
      rw [e] at e1
      cases e1
      exact e2
   have KX':K.In s'.heap:=fun b o e=>kept b o (KX b o e)
   obtain ⟨as,hrd⟩:=Dw.reads (R:=R) (cl:=cl) hok' KX' d0 v u q r'
   exact ⟨u,as,rfl,hrd,OldK.of_keep kept,os,bare⟩
theorem layable_weight {ds:List WData} (h:WData.layableAll ds=true):∀ d∈ds,d.weight<=1048576:=fun d hd =>
 (PySem.W.layableW_iff.mp (List.all_eq_true.mp h d hd)).2.2
theorem encAll_len:∀ (cs:List Codec) (a:Codec.denoteAll cs),(Codec.encAll cs a).length=cs.length
 | [],_=>rfl
 | c :: cs,a=>by
  show (Codec.encAll cs a.2).length+1=cs.length+1
  rw [encAll_len cs a.2]
theorem walk_spec {r:OpenSpec} {k:Nat} {q:Program} {loose:List Str} {XP:(Str->Option Value)->Heap->Prop} {YP:World->Heap->Prop} {d:DefRec} {K:Params->PySem.W.Frag} {CX:World->CXT} {ps:List Str} {sp:World->Sp}
  (hwell:r.wellSaid=true) (hdf:d.params.defaults=[]) (hlen:r.args.length=ps.length) (hr:Room k callerA)
  (hY:∀ (w:World) (h:Heap),YP w h->(K w.params).In h)
  (F:∀ (w:World) (mg:Str->Option Value) (fa:Addr) (h:Heap),YP w h->(K w.params).In h->h.Ns mainGlobals mg->mg d.name=some (.ref fa) ->
   ∃ fd:FuncData,(∀ (s:Shared) (us:List Value),us.length=ps.length->BindsTo s fd ⟨us,[]⟩ (ps.zip us)) /\
    ∀ base:Heap,(K w.params).In base->base.Ns mainGlobals mg->FnOk r.prog w (K w.params) mg base (CX w) k fa fd ps (sp w))
  (hsp:∀ (w:World) (H:Hp) (xs:List V) (a:Codec.denoteAll r.args),OnlyF H->Codec.withinAll r.args a=true->Codec.app r.args r.asked a=true->DwAll (K w.params) H xs (Codec.encAll r.args a) ->
   sp w xs H (fun v H'=>Dw (K w.params) H' v (r.ret.enc (Codec.app r.args r.f a))) fun _ _ _=>False)
  (hCX:∀ (w:World) (H:Hp) (s:Shared) (e:Value) (s':Shared),CX w [] H s (fun _ _ _=>False) e s'->False) :
  PySem.W.WalkOS q loose XP YP r d [] (fun f vs=>PySem.call f vs):=by
 intro w s_0 s₁ mg mb G Y fa o pm cd doc dV kV ho hd hcd hD hmg hg args vals as hpre hlay hrd hwl hlo
 obtain ⟨a,e1,e2⟩:=PySem.W.os_pre_some hpre
 obtain ⟨e3,hwi⟩:=Codec.encAll_of_decAll r.args args a e1
 subst e3
 have KX:=hY w _ Y
 obtain ⟨fd,hb,hF⟩:=F w mg fa _ Y KX G.T.g hmg
 refine PySem.W.enter_call (codeAny_mono (spec_call (R:=[]) (cl:=classAt s_0.heap) (d0:=r.ret.enc (Codec.app r.args r.f a)) KX G.T.g G.T.b G.T.builtins G.T.nolimit hg hwl (pl_encAll _ _) (layable_weight hlay) hr hF hb (by rw [encAll_len]; exact hlen)
  (fun H xs hO hS=>hsp w H xs a hO hwi e2 hS) fun H e s'=>hCX w H s₁ e s') fun r' s' hq=>?_)
 obtain ⟨u,as',rfl,h1,h2,h3,h4⟩:=hq
 exact ⟨.inl ⟨u,_,as',rfl,fun _=>rfl,h1,(OpenSpec.post_iff hwell hwi _ _).mpr rfl,fun z=>Bool.noConfusion (show false=true from z)⟩,h2,h3,h4⟩
theorem walk_specK {r:OpenSpec} {k:Nat} {q:Program} {loose:List Str} {XP:(Str->Option Value)->Heap->Prop} {YP:World->Heap->Prop} {d:DefRec} {K:Params->PySem.W.Frag} {CX:CXT} {ps:List Str} {sp:PySem.W.Frag->Sp}
  (hwell:r.wellSaid=true) (hdf:d.params.defaults=[]) (hlen:r.args.length=ps.length) (hr:Room k callerA)
  (hY:∀ (w:World) (h:Heap),YP w h->(K w.params).In h)
  (F:∀ (w:World) (mg:Str->Option Value) (fa:Addr) (h:Heap),YP w h->(K w.params).In h->h.Ns mainGlobals mg->mg d.name=some (.ref fa) ->
   ∃ fd:FuncData,(∀ (s:Shared) (us:List Value),us.length=ps.length->BindsTo s fd ⟨us,[]⟩ (ps.zip us)) /\
    ∀ base:Heap,(K w.params).In base->base.Ns mainGlobals mg->FnOk r.prog w (K w.params) mg base CX k fa fd ps (sp (K w.params)))
  (hsp:∀ (K:PySem.W.Frag) (H:Hp) (xs:List V) (a:Codec.denoteAll r.args),OnlyF H->Codec.withinAll r.args a=true->Codec.app r.args r.asked a=true->DwAll K H xs (Codec.encAll r.args a) ->
   sp K xs H (fun v H'=>Dw K H' v (r.ret.enc (Codec.app r.args r.f a))) fun _ _ _=>False)
  (hCX:∀ (H:Hp) (s:Shared) (e:Value) (s':Shared),CX [] H s (fun _ _ _=>False) e s'->False) :
  PySem.W.WalkOS q loose XP YP r d [] (fun f vs=>PySem.call f vs) :=
 walk_spec (K:=K) (CX:=fun _=>CX) (sp:=fun w=>sp (K w.params)) hwell hdf hlen hr hY F (fun w H xs a h1 h2 h3 h4=>hsp (K w.params) H xs a h1 h2 h3 h4) fun _ H s e s'=>hCX H s e s'
end L2
-- rests on (row put in by the clerk, for the bench that shows a file only what it spells): KE.SpHead KE.OsShapes
end
namespace Lw
open PySem PySem.Spec PyProof.Rows L2
open PySem.W (WData Codec)
section
variable {X:Cx}
def CMulB (i j:Int):Prop:=IntMulOk i j
theorem op_mulB:OpR X (binaryOp .Mult) (rI CMulB fun i j=>.int (i*j)):=opI fun _ _ _ _ _ _ _ hc q=>mul_int q hc
def CDivB (i j:Int):Prop:=0 < j/\Builtin.divisionGoesByPylong i j=false
theorem op_fdivB:OpR X (binaryOp .FloorDiv) (rI CDivB fun i j=>.int (i / j)):=opI fun i j _ _ _ _ _ hc q=>by
 have e:i.fdiv j=i / j:=Int.fdiv_eq_ediv_of_nonneg i (Int.le_of_lt hc.1)
 exact floordiv_int (Int.ne_of_gt hc.1) (by rw [e]; exact q) (.inl hc.2)
end
theorem bits_of_lt {k:Int} {n:Nat} (h:k.natAbs < 2 ^ n):Builtin.Int.intBits k<=n:=by
 unfold Builtin.Int.intBits
 split
 ·exact Nat.zero_le _
 ·rename_i hk
  have h0:k.natAbs≠0:=fun e=>by
   have:k=0:=by omega
   subst this
   simp at hk
  have:k.natAbs.log2 < n:=(Nat.log2_lt h0).mpr h
  omega
theorem mulOk {a b:Int} {m n:Nat} (ha:a.natAbs < 2 ^ m) (hb:b.natAbs < 2 ^ n) (h:m+n<=134217728):IntMulOk a b:=mulOk_of_bits (bits_of_lt ha) (bits_of_lt hb) h
theorem same_new {H:Hp} {p:Addr} {o:HO} (h:H p=Option.none):Same H (upd H p o):=fun b u e=>by
 rw [upd_ne (ne_of_none e h)]
 exact e
theorem for_enum {K:PySem.W.Frag} {a:Addr} {xs:List V} {g:TG} {tb:TS} {D:Ends} {σ:L2.St} {H:Hp} (Pv:Nat->L2.St->Hp->Prop) (h0:Pv 0 σ H) (hl:∀ i σ H,i<=xs.length->Pv i σ H->SqL K H a xs)
  (hs:∀ i x σ H T,xs[i]? = some x->Pv i σ H->H T=Option.none->g (.ref T) σ (upd H T (.tup [.int (i:Nat),x])) fun σ2 H2=>tb { D with nx:=Pv (i+1),ct:=Pv (i+1),bk:=D.nx } σ2 H2) (hd:∀ σ H,Pv xs.length σ H->D.nx σ H) :
  ∃ W:Nat->Nat->L2.St->Hp->Prop,(∃ m,W 0 m σ H)/\∀ i m σ H,W i m σ H ->
   ((Ite K a).stop i H/\D.nx σ H)\/((Ite K a).go i H/\∃ N:L2.St->Hp->Prop,(∀ σ' H',N σ' H'->∃ m',m' < m/\W (i+1) m' σ' H')/\∀ x H',(Ite K a).yld i H x H'->g x σ H' fun σ2 H2=>tb { D with nx:=N,ct:=N,bk:=D.nx } σ2 H2):=by
 refine ⟨fun i m σ H=>m=xs.length - i/\i<=xs.length/\Pv i σ H,⟨xs.length,by simp,Nat.zero_le _,h0⟩,?_⟩
 rintro i m σ H ⟨rfl,hi,p⟩
 have q:=hl i σ H hi p
 by_cases hlt:i < xs.length
 ·refine .inr ⟨⟨xs,xs[i],q,by simp [hlt]⟩,Pv (i+1),fun σ' H' p'=>⟨xs.length - (i+1),by omega,rfl,hlt,p'⟩,fun x H' y=>?_⟩
  obtain ⟨T,x',rfl,hT,rfl,y⟩:=y
  exact hs i x' σ H T (y xs q) p hT
 ·have e:i=xs.length:=by omega
  subst e
  exact .inl ⟨⟨xs,q,Nat.le_refl _⟩,hd σ H p⟩
theorem int_at {ns:List Int} {i:Nat} {v:V} (h:(ns.map V.int)[i]? = some v):∃ z,ns[i]? = some z/\v=V.int z:=by
 rw [List.getElem?_map] at h
 cases e:ns[i]? with
 | none=>rw [e] at h; cases h
 | some z=>rw [e] at h; exact ⟨z,rfl,(Option.some.inj h).symm⟩
end Lw
namespace Lw
open PySem PySem.Spec PyProof.Rows L2
section
variable {X:Cx}
theorem pt_and {a b:Expr} {rest:List Expr} {pos:Pos} {tA tB':TT} (ha:PT X a tA) (hb:PW X (.BoolOp .And (b :: rest) pos) tB'):PT X (.BoolOp .And (a :: b :: rest) pos) (tAnd tA tB'):=(pw_and ha hb).pt
theorem pt_or {a b:Expr} {rest:List Expr} {pos:Pos} {tA tB':TT} (ha:PT X a tA) (hb:PW X (.BoolOp .Or (b :: rest) pos) tB'):PT X (.BoolOp .Or (a :: b :: rest) pos) (tOr tA tB'):=(pw_or ha hb).pt
end
end Lw
namespace Lw
open PySem PySem.Spec PyProof.Rows L2
structure Def (P:Program) (w:World) (K:PySem.W.Frag) (mg:Str->Option Value) (base:Heap) (x:Str) (k:Nat) (ps:List Str) (sp:Sp):Prop where
 ex:∃ (f:Addr) (fd:FuncData),FnOk P w K mg base CX0 k f fd ps sp/\mg x=some (.ref f)/\PySem.W.keepIn K (.ref f)=true/\Binds K fd ps []/\∃ (oc:Value) (od:Option Addr) (sl:Array (Option Value)),K.lookup f=some ⟨oc,od,.func fd,sl⟩
structure At (K:PySem.W.Frag) (mg:Str->Option Value) (x:Str) (st:Stmt) (ps:List Str):Prop where
 ex:∃ (f:Addr) (fd:FuncData),Fun K x x st f fd/\mg x=some (.ref f)/\Binds K fd ps []
section
variable {X:Cx}
theorem pe_gE {x:Str} {i:Int} {pos:Pos} (hg:Gl X x) (hm:∃ t,X.mg x=some (.int i t)) (hd:(x == ("__debug__" : Str))=false:=by decide):PE X (.Name x pos) (tC (.int i)):=by
 obtain ⟨t,hm⟩:=hm
 exact pe_glob hg hm ⟨t,rfl⟩ hd
theorem pe_callD {x:Str} {k j:Nat} {ps:List Str} {sp:Sp} {e:Expr} {es:List Expr} {t:TA} {p pos:Pos} (C:Def X.prog X.w X.K X.mg X.base x k ps sp) (hr:Room j X.A) (ha:PA X (e :: es) t) (hk:k<=j:=by decide) (hg:Gl X x:=by rfl)
  (hdb:(x == ("__debug__" : Str))=false:=by decide) (he:starEach (e :: es) X.env=(false,eval e X.env) :: starEach es X.env:=by rfl) (hpl:(backTo pos (starEach es X.env)).any (·.1)=false:=by rfl) :
  PE X (.Call (.Name x p) (e :: es) [] pos) (tCall sp [] E0 t):=by
 obtain ⟨f,fd,F,m,kp,b,_⟩:=C.ex
 exact pe_call F (hr.mono hk) hg m kp b .nil pass0 ha hdb he hpl
end
section
variable {P:Program} {w:World} {K:PySem.W.Frag} {mg:Str->Option Value} {base:Heap}
theorem At.ok {x:Str} {st:Stmt} {N ps:List Str} {k:Nat} {sp:Sp} (F:At K mg x st ps) (S:FnScope N ps (defScope st)) (len:∀ vs H Q E,sp vs H Q E->vs.length=ps.length)
  (hbody:∀ (f:Addr) (cdv:Value) (A:Around) (outer:List Env) (s:Shared) (H:Hp) (vs:List V) (Q:VK) (E:XK),Room k (A.deeper (envOfC x (defScope st) s.heap.objs.size f cdv))->sp vs H Q E ->
   ∃ t,PSs (cxOf CX0 P w K mg base N x (defScope st) f cdv A outer s H E).nox (defBody st) t/\t { nx:=fun _ H'=>Q .non H',rt:=Q } (start N vs) H):Def P w K mg base x (k+1) ps sp:=by
 obtain ⟨f,fd,F,m,b⟩:=F.ex
 obtain ⟨oc,od,_,_,_,_,_,_,sl,_,lk,_⟩:=F.ex
 exact ⟨f,fd,F.ok S len (hbody f),m,F.kp,b,oc,od,sl,lk⟩
theorem Def.at_ {x:Str} {k:Nat} {ps:List Str} {sp:Sp} {fa:Addr} {fd:FuncData} {oc:Value} {od:Option Addr} {sl:Array (Option Value)} (D:Def P w K mg base x k ps sp) (hm:mg x=some (.ref fa)) (l:K.lookup fa=some ⟨oc,od,.func fd,sl⟩):FnOk P w K mg base CX0 k fa fd ps sp:=by
 obtain ⟨f,fd',F,m,_,_,oc',od',sl',lk⟩:=D.ex
 have e:fa=f:=Value.ref.inj (Option.some.inj (hm.symm.trans m))
 subst e
 have e2:=lk.symm.trans l
 cases e2
 exact F
end
end Lw
namespace Lw
open PySem PySem.Spec PyProof.Rows L2
theorem bt_len:bootBuiltins "len" = some (.builtin "len"):=by decide +kernel
theorem bt_abs:bootBuiltins "abs" = some (.builtin "abs"):=by decide +kernel
theorem bt_min:bootBuiltins "min" = some (.builtin "min"):=by decide +kernel
theorem bt_max:bootBuiltins "max" = some (.builtin "max"):=by decide +kernel
theorem bt_any:bootBuiltins "any" = some (.builtin "any"):=by decide +kernel
theorem bt_all:bootBuiltins "all" = some (.builtin "all"):=by decide +kernel
theorem bt_list:bootBuiltins "list" = some (.type "list"):=by decide +kernel
end Lw
namespace Lw
open PySem PySem.Spec PyProof.Rows L2
theorem take_snoc {α:Type} {ys:List α} {i:Nat} {y:α} (h:ys[i]? = some y):ys.take i ++ [y]=ys.take (i+1):=by
 rw [List.take_add_one,h]
 rfl
theorem upd_keep {H H':Hp} {D:Addr} {o:HO} (n:H D=Option.none) (s:Same H H'):Same H (upd H' D o):=fun b u e=>by
 rw [upd_ne (ne_of_none e n)]
 exact s b u e
theorem lc_mapL {K:PySem.W.Frag} {a:Addr} {xs ys:List V} {g:TG} {tt:TT} {te:TE} {vs:List Nat} {σ:L2.St} {H1:Hp} {D:Addr} {Qd:Hp->Prop} (hn:H1 D=Option.none) (hy:ys.length=xs.length) (hz:ys.length<=sizeLine) (hS:SqL K H1 a xs)
  (hs:∀ (i:Nat) (x y:V) (H:Hp) (R:V->Hp->Prop) (N:Hp->Prop),xs[i]? = some x->ys[i]? = some y->Same H1 H->(∀ H4,Same H H4->R y H4)->g x (wipe σ vs) H fun σ2 H2=>wipe σ2 vs=wipe σ vs/\tt σ2 H2 fun b H3=>if b=true then te σ2 H3 R else N H3)
  (hd:∀ H,Same H1 H->H D=some (.lst ys)->Qd H) :
  ∃ W:Nat->Nat->Hp->Prop,(∃ m,W 0 m (upd H1 D (.lst [])))/\∀ i m H,W i m H ->
   ((Itl K a).stop i H/\Qd H)\/((Itl K a).go i H/\∃ Nx:Hp->Prop,(∀ H',Nx H'->∃ m',m' < m/\W (i+1) m' H')/\∀ x H',(Itl K a).yld i H x H'->g x (wipe σ vs) H' fun σ2 H2=>wipe σ2 vs=wipe σ vs/\tt σ2 H2 fun b H3 =>
    if b=true then te σ2 H3 fun y H4=>∃ acc,H4 D=some (.lst acc)/\acc.length < sizeLine/\Nx (upd H4 D (.lst (acc ++ [y]))) else Nx H3):=by
 refine lc_list (K:=K) (a:=a) (xs:=xs) (fun i H=>Same H1 H/\H D=some (.lst (ys.take i))) ⟨same_new hn,upd_same⟩ (fun i H _ p=>p.1.seq hS) ?_ (fun H p=>hd H p.1 ?_)
 ·intro i x H hx p
  have hi:i < ys.length:=by rw [hy]; exact (List.getElem?_eq_some_iff.mp hx).1
  refine hs i x ys[i] H _ _ hx (List.getElem?_eq_getElem hi) p.1 fun H4 s4=>⟨ys.take i,s4 _ _ p.2,?_,upd_keep hn (p.1.trans s4),?_⟩
  ·rw [List.length_take]
   omega
  ·rw [take_snoc (List.getElem?_eq_getElem hi)]
   exact upd_same
 ·have:=p.2
  rw [← hy,List.take_length] at this
  exact this
theorem lc_mapR {lo:Int} {n:Nat} {ys:List V} {g:TG} {tt:TT} {te:TE} {vs:List Nat} {σ:L2.St} {H1:Hp} {D:Addr} {Qd:Hp->Prop} (hn:H1 D=Option.none) (hy:ys.length=n) (hz:ys.length<=sizeLine)
  (hs:∀ (i:Nat) (y:V) (H:Hp) (R:V->Hp->Prop) (N:Hp->Prop),i < n->ys[i]? = some y->Same H1 H->(∀ H4,Same H H4->R y H4)->g (.int (lo+i)) (wipe σ vs) H fun σ2 H2=>wipe σ2 vs=wipe σ vs/\tt σ2 H2 fun b H3=>if b=true then te σ2 H3 R else N H3)
  (hd:∀ H,Same H1 H->H D=some (.lst ys)->Qd H) :
  ∃ W:Nat->Nat->Hp->Prop,(∃ m,W 0 m (upd H1 D (.lst [])))/\∀ i m H,W i m H ->
   ((Itr lo n).stop i H/\Qd H)\/((Itr lo n).go i H/\∃ Nx:Hp->Prop,(∀ H',Nx H'->∃ m',m' < m/\W (i+1) m' H')/\∀ x H',(Itr lo n).yld i H x H'->g x (wipe σ vs) H' fun σ2 H2=>wipe σ2 vs=wipe σ vs/\tt σ2 H2 fun b H3 =>
    if b=true then te σ2 H3 fun y H4=>∃ acc,H4 D=some (.lst acc)/\acc.length < sizeLine/\Nx (upd H4 D (.lst (acc ++ [y]))) else Nx H3):=by
 refine lc_range (lo:=lo) (n:=n) (fun i H=>Same H1 H/\H D=some (.lst (ys.take i))) ⟨same_new hn,upd_same⟩ ?_ (fun H p=>hd H p.1 ?_)
 ·intro i H hx p
  have hi:i < ys.length:=by rw [hy]; exact hx
  refine hs i ys[i] H _ _ hx (List.getElem?_eq_getElem hi) p.1 fun H4 s4=>⟨ys.take i,s4 _ _ p.2,?_,upd_keep hn (p.1.trans s4),?_⟩
  ·rw [List.length_take]
   omega
  ·rw [take_snoc (List.getElem?_eq_getElem hi)]
   exact upd_same
 ·have:=p.2
  rw [← hy,List.take_length] at this
  exact this
theorem lc_rangeC {lo c:Int} {n:Nat} {g:TG} {tt:TT} {te:TE} {vs:List Nat} {σ:L2.St} {H1:Hp} {D:Addr} {Qd:Hp->Prop} (Pv:Nat->Hp->Prop) (h0:Pv 0 (upd H1 D (.lst [])))
  (hs:∀ i H,i < n->Pv i H->g (.int (lo+(i:Nat)*c)) (wipe σ vs) H fun σ2 H2=>wipe σ2 vs=wipe σ vs/\tt σ2 H2 fun b H3 =>
   if b=true then te σ2 H3 fun y H4=>∃ acc,H4 D=some (.lst acc)/\acc.length < sizeLine/\Pv (i+1) (upd H4 D (.lst (acc ++ [y]))) else Pv (i+1) H3) (hd:∀ H,Pv n H->Qd H) :
  ∃ W:Nat->Nat->Hp->Prop,(∃ m,W 0 m (upd H1 D (.lst [])))/\∀ i m H,W i m H ->
   ((Itc lo c n).stop i H/\Qd H)\/((Itc lo c n).go i H/\∃ Nx:Hp->Prop,(∀ H',Nx H'->∃ m',m' < m/\W (i+1) m' H')/\∀ x H',(Itc lo c n).yld i H x H'->g x (wipe σ vs) H' fun σ2 H2=>wipe σ2 vs=wipe σ vs/\tt σ2 H2 fun b H3 =>
    if b=true then te σ2 H3 fun y H4=>∃ acc,H4 D=some (.lst acc)/\acc.length < sizeLine/\Nx (upd H4 D (.lst (acc ++ [y]))) else Nx H3):=by
 refine ⟨fun i m H=>m=n - i/\i<=n/\Pv i H,⟨n,by simp,Nat.zero_le _,h0⟩,?_⟩
 rintro i m H ⟨rfl,hi,p⟩
 by_cases hlt:i < n
 ·refine .inr ⟨hlt,Pv (i+1),fun H' p'=>⟨n - (i+1),by omega,rfl,hlt,p'⟩,fun x H' y=>?_⟩
  obtain ⟨e,y⟩:=y
  subst e y
  exact hs i _ hlt p
 ·have e:i=n:=by omega
  subst e
  exact .inl ⟨Nat.le_refl _,hd H p⟩
theorem rgC {a b c:Int} {n:Nat} (hc:0 < c) (hc2:c < 1000000) (ha:-(2 ^ 60)<=a) (ha':a < 2 ^ 60) (hb:-(2 ^ 60)<=b) (hb':b < 2 ^ 60) (hn:(if a < b then (b - a - 1) / c+1 else 0)=(n:Int)):RgC a b c n:=by
 have e:Builtin.Range.rangeSize a b c=if a < b then (b - a - 1) / c+1 else 0:=by
  unfold Builtin.Range.rangeSize
  rw [if_pos hc]
 refine ⟨by omega,by omega,?_,by rw [e,hn]⟩
 unfold Builtin.Range.small
 rw [e]
 have q1:a < b->(b - a - 1) / c*c<=b - a - 1:=fun _=>Int.ediv_mul_le _ (by omega)
 have q2:a < b->0<=(b - a - 1) / c:=fun _=>Int.ediv_nonneg (by omega) (by omega)
 simp only [Builtin.Range.rangeFitsLong,Bool.and_eq_true,Bool.or_eq_true,decide_eq_true_eq,beq_iff_eq,show c > 0 from hc,if_true]
 have q3:a < b->(b - a - 1) / c<=b - a - 1:=fun h=>Int.ediv_le_self _ (by omega)
 split <;> omega
end Lw
namespace Lw
open PySem PySem.Spec PyProof.Rows L2
theorem lc_enum {K:PySem.W.Frag} {a:Addr} {xs:List V} {g:TG} {tt:TT} {te:TE} {vs:List Nat} {σ:L2.St} {H1:Hp} {D:Addr} {Qd:Hp->Prop} (Pv:Nat->Hp->Prop) (h0:Pv 0 (upd H1 D (.lst []))) (hl:∀ i H,i<=xs.length->Pv i H->SqL K H a xs)
  (hs:∀ i x H T,xs[i]? = some x->Pv i H->H T=Option.none->g (.ref T) (wipe σ vs) (upd H T (.tup [.int (i:Nat),x])) fun σ2 H2=>wipe σ2 vs=wipe σ vs/\tt σ2 H2 fun b H3 =>
   if b=true then te σ2 H3 fun y H4=>∃ acc,H4 D=some (.lst acc)/\acc.length < sizeLine/\Pv (i+1) (upd H4 D (.lst (acc ++ [y]))) else Pv (i+1) H3) (hd:∀ H,Pv xs.length H->Qd H) :
  ∃ W:Nat->Nat->Hp->Prop,(∃ m,W 0 m (upd H1 D (.lst [])))/\∀ i m H,W i m H ->
   ((Ite K a).stop i H/\Qd H)\/((Ite K a).go i H/\∃ Nx:Hp->Prop,(∀ H',Nx H'->∃ m',m' < m/\W (i+1) m' H')/\∀ x H',(Ite K a).yld i H x H'->g x (wipe σ vs) H' fun σ2 H2=>wipe σ2 vs=wipe σ vs/\tt σ2 H2 fun b H3 =>
    if b=true then te σ2 H3 fun y H4=>∃ acc,H4 D=some (.lst acc)/\acc.length < sizeLine/\Nx (upd H4 D (.lst (acc ++ [y]))) else Nx H3):=by
 refine ⟨fun i m H=>m=xs.length - i/\i<=xs.length/\Pv i H,⟨xs.length,by simp,Nat.zero_le _,h0⟩,?_⟩
 rintro i m H ⟨rfl,hi,p⟩
 have q:=hl i H hi p
 by_cases hlt:i < xs.length
 ·refine .inr ⟨⟨xs,xs[i],q,by simp [hlt]⟩,Pv (i+1),fun H' p'=>⟨xs.length - (i+1),by omega,rfl,hlt,p'⟩,fun x H' y=>?_⟩
  obtain ⟨T,x',rfl,hT,rfl,y⟩:=y
  exact hs i x' H T (y xs q) p hT
 ·have e:i=xs.length:=by omega
  subst e
  exact .inl ⟨⟨xs,q,Nat.le_refl _⟩,hd H p⟩
theorem lc_zip {K:PySem.W.Frag} {a b:Addr} {xs zs:List V} {n:Nat} {g:TG} {tt:TT} {te:TE} {vs:List Nat} {σ:L2.St} {H1:Hp} {D:Addr} {Qd:Hp->Prop} (Pv:Nat->Hp->Prop) (hn:n=min xs.length zs.length) (h0:Pv 0 (upd H1 D (.lst []))) (hl:∀ i H,i<=n->Pv i H->SqL K H a xs/\SqL K H b zs)
  (hs:∀ i x z H T,xs[i]? = some x->zs[i]? = some z->Pv i H->H T=Option.none->g (.ref T) (wipe σ vs) (upd H T (.tup [x,z])) fun σ2 H2=>wipe σ2 vs=wipe σ vs/\tt σ2 H2 fun b H3 =>
   if b=true then te σ2 H3 fun y H4=>∃ acc,H4 D=some (.lst acc)/\acc.length < sizeLine/\Pv (i+1) (upd H4 D (.lst (acc ++ [y]))) else Pv (i+1) H3) (hd:∀ H,Pv n H->Qd H) :
  ∃ W:Nat->Nat->Hp->Prop,(∃ m,W 0 m (upd H1 D (.lst [])))/\∀ i m H,W i m H ->
   ((Itz K a b).stop i H/\Qd H)\/((Itz K a b).go i H/\∃ Nx:Hp->Prop,(∀ H',Nx H'->∃ m',m' < m/\W (i+1) m' H')/\∀ x H',(Itz K a b).yld i H x H'->g x (wipe σ vs) H' fun σ2 H2=>wipe σ2 vs=wipe σ vs/\tt σ2 H2 fun b H3 =>
    if b=true then te σ2 H3 fun y H4=>∃ acc,H4 D=some (.lst acc)/\acc.length < sizeLine/\Nx (upd H4 D (.lst (acc ++ [y]))) else Nx H3):=by
 refine ⟨fun i m H=>m=n - i/\i<=n/\Pv i H,⟨n,by simp,Nat.zero_le _,h0⟩,?_⟩
 rintro i m H ⟨rfl,hi,p⟩
 obtain ⟨q1,q2⟩:=hl i H hi p
 by_cases hlt:i < n
 ·have l1:i < xs.length:=by omega
  have l2:i < zs.length:=by omega
  refine .inr ⟨⟨xs,zs,xs[i],zs[i],q1,q2,by simp [l1],by simp [l2]⟩,Pv (i+1),fun H' p'=>⟨n - (i+1),by omega,rfl,hlt,p'⟩,fun x H' y=>?_⟩
  obtain ⟨T,x',z',rfl,hT,rfl,y1,y2⟩:=y
  exact hs i x' z' H T (y1 xs q1) (y2 zs q2) p hT
 ·have e:i=n:=by omega
  exact .inl ⟨⟨xs,zs,q1,q2,by omega⟩,hd H (e ▸ p)⟩
theorem lc_mapE {K:PySem.W.Frag} {a:Addr} {xs ys:List V} {g:TG} {tt:TT} {te:TE} {vs:List Nat} {σ:L2.St} {H1:Hp} {D:Addr} {Qd:Hp->Prop} (hn:H1 D=Option.none) (hy:ys.length=xs.length) (hz:ys.length<=sizeLine) (hS:SqL K H1 a xs)
  (hs:∀ (i:Nat) (x y:V) (H:Hp) (T:Addr) (R:V->Hp->Prop) (N:Hp->Prop),xs[i]? = some x->ys[i]? = some y->Same H1 H->H T=Option.none->(∀ H4,Same H H4->R y H4)->g (.ref T) (wipe σ vs) (upd H T (.tup [.int (i:Nat),x])) fun σ2 H2=>wipe σ2 vs=wipe σ vs/\tt σ2 H2 fun b H3=>if b=true then te σ2 H3 R else N H3)
  (hd:∀ H,Same H1 H->H D=some (.lst ys)->Qd H) :
  ∃ W:Nat->Nat->Hp->Prop,(∃ m,W 0 m (upd H1 D (.lst [])))/\∀ i m H,W i m H ->
   ((Ite K a).stop i H/\Qd H)\/((Ite K a).go i H/\∃ Nx:Hp->Prop,(∀ H',Nx H'->∃ m',m' < m/\W (i+1) m' H')/\∀ x H',(Ite K a).yld i H x H'->g x (wipe σ vs) H' fun σ2 H2=>wipe σ2 vs=wipe σ vs/\tt σ2 H2 fun b H3 =>
    if b=true then te σ2 H3 fun y H4=>∃ acc,H4 D=some (.lst acc)/\acc.length < sizeLine/\Nx (upd H4 D (.lst (acc ++ [y]))) else Nx H3):=by
 refine lc_enum (K:=K) (a:=a) (xs:=xs) (fun i H=>Same H1 H/\H D=some (.lst (ys.take i))) ⟨same_new hn,upd_same⟩ (fun i H _ p=>p.1.seq hS) ?_ (fun H p=>hd H p.1 ?_)
 ·intro i x H T hx p hT
  have hi:i < ys.length:=by rw [hy]; exact (List.getElem?_eq_some_iff.mp hx).1
  refine hs i x ys[i] H T _ _ hx (List.getElem?_eq_getElem hi) p.1 hT fun H4 s4=>⟨ys.take i,s4 _ _ p.2,?_,upd_keep hn (p.1.trans s4),?_⟩
  ·rw [List.length_take]
   omega
  ·rw [take_snoc (List.getElem?_eq_getElem hi)]
   exact upd_same
 ·have:=p.2
  rw [← hy,List.take_length] at this
  exact this
theorem lc_mapZ {K:PySem.W.Frag} {a b:Addr} {xs zs ys:List V} {g:TG} {tt:TT} {te:TE} {vs:List Nat} {σ:L2.St} {H1:Hp} {D:Addr} {Qd:Hp->Prop} (hn:H1 D=Option.none) (hy:ys.length=min xs.length zs.length) (hz:ys.length<=sizeLine) (hS:SqL K H1 a xs) (hS2:SqL K H1 b zs)
  (hs:∀ (i:Nat) (x z y:V) (H:Hp) (T:Addr) (R:V->Hp->Prop) (N:Hp->Prop),xs[i]? = some x->zs[i]? = some z->ys[i]? = some y->Same H1 H->H T=Option.none->(∀ H4,Same H H4->R y H4)->g (.ref T) (wipe σ vs) (upd H T (.tup [x,z])) fun σ2 H2=>wipe σ2 vs=wipe σ vs/\tt σ2 H2 fun b H3=>if b=true then te σ2 H3 R else N H3)
  (hd:∀ H,Same H1 H->H D=some (.lst ys)->Qd H) :
  ∃ W:Nat->Nat->Hp->Prop,(∃ m,W 0 m (upd H1 D (.lst [])))/\∀ i m H,W i m H ->
   ((Itz K a b).stop i H/\Qd H)\/((Itz K a b).go i H/\∃ Nx:Hp->Prop,(∀ H',Nx H'->∃ m',m' < m/\W (i+1) m' H')/\∀ x H',(Itz K a b).yld i H x H'->g x (wipe σ vs) H' fun σ2 H2=>wipe σ2 vs=wipe σ vs/\tt σ2 H2 fun b H3 =>
    if b=true then te σ2 H3 fun y H4=>∃ acc,H4 D=some (.lst acc)/\acc.length < sizeLine/\Nx (upd H4 D (.lst (acc ++ [y]))) else Nx H3):=by
 refine lc_zip (K:=K) (a:=a) (b:=b) (xs:=xs) (zs:=zs) (n:=ys.length) (fun i H=>Same H1 H/\H D=some (.lst (ys.take i))) hy ⟨same_new hn,upd_same⟩ (fun i H _ p=>⟨p.1.seq hS,p.1.seq hS2⟩) ?_ (fun H p=>hd H p.1 ?_)
 ·intro i x z H T hx hz' p hT
  have l1:=(List.getElem?_eq_some_iff.mp hx).1
  have l2:=(List.getElem?_eq_some_iff.mp hz').1
  have hi:i < ys.length:=by omega
  refine hs i x z ys[i] H T _ _ hx hz' (List.getElem?_eq_getElem hi) p.1 hT fun H4 s4=>⟨ys.take i,s4 _ _ p.2,?_,upd_keep hn (p.1.trans s4),?_⟩
  ·rw [List.length_take]
   omega
  ·rw [take_snoc (List.getElem?_eq_getElem hi)]
   exact upd_same
 ·have:=p.2
  rw [List.take_length] at this
  exact this
section
variable {X:Cx}
def rNotInD (K:PySem.W.Frag):R2:=fun x y H Q=>∃ d ds,Dp K H x d/\Dp K H y (.tuple ds)/\d.canLay0=true/\PyData.canLayAll0 ds=true/\PyData.depthAll ds<=60/\Q (.bl (!ds.any fun z=>PyData.eqv z d)) H
theorem op_notInD (hu:X.A.units+64 < cLine):OpR X (compareOp .NotIn) (rNotInD X.K):=by
 intro pins s σ H x y v u Q I rx ry h
 obtain ⟨d,ds,hd,he,sd,se,hdep,q⟩:=h
 obtain ⟨as,r1⟩:=Dp.reads I d x v hd rx
 obtain ⟨bs,r2⟩:=Dp.reads I (.tuple ds) y u he ry
 exact PySem.SeqAt.notIn_tuple_reads r2 r1 se sd (by omega) ⟨.bl _,H,I,rfl,q⟩
end
end Lw
namespace Lw
open PySem PySem.Spec PyProof.Rows L2
theorem for_rev {K:PySem.W.Frag} {a:Addr} {xs:List V} {g:TG} {tb:TS} {D:Ends} {σ:L2.St} {H:Hp} (Pv:Nat->L2.St->Hp->Prop) (h0:Pv 0 σ H) (hl:∀ i σ H,i<=xs.length->Pv i σ H->SqL K H a xs)
  (hs:∀ i x σ H,i < xs.length->xs[xs.length - 1 - i]? = some x->Pv i σ H->g x σ H fun σ2 H2=>tb { D with nx:=Pv (i+1),ct:=Pv (i+1),bk:=D.nx } σ2 H2) (hd:∀ σ H,Pv xs.length σ H->D.nx σ H) :
  ∃ W:Nat->Nat->L2.St->Hp->Prop,(∃ m,W 0 m σ H)/\∀ i m σ H,W i m σ H ->
   ((Itv K a xs.length).stop i H/\D.nx σ H)\/((Itv K a xs.length).go i H/\∃ N:L2.St->Hp->Prop,(∀ σ' H',N σ' H'->∃ m',m' < m/\W (i+1) m' σ' H')/\∀ x H',(Itv K a xs.length).yld i H x H'->g x σ H' fun σ2 H2=>tb { D with nx:=N,ct:=N,bk:=D.nx } σ2 H2):=by
 refine ⟨fun i m σ H=>m=xs.length - i/\i<=xs.length/\Pv i σ H,⟨xs.length,by simp,Nat.zero_le _,h0⟩,?_⟩
 rintro i m σ H ⟨rfl,hi,p⟩
 have q:=hl i σ H hi p
 by_cases hlt:i < xs.length
 ·refine .inr ⟨⟨hlt,xs,xs[xs.length - 1 - i],q,List.getElem?_eq_getElem (by omega)⟩,Pv (i+1),fun σ' H' p'=>⟨xs.length - (i+1),by omega,rfl,hlt,p'⟩,fun x H' y=>?_⟩
  obtain ⟨rfl,y⟩:=y
  exact hs i x σ _ hlt (y xs q) p
 ·have e:i=xs.length:=by omega
  subst e
  exact .inl ⟨Nat.le_refl _,hd σ H p⟩
end Lw
namespace Lw
open PySem PySem.Spec PyProof.Rows L2
theorem rev_no_len:typeLookup (.type "list_reverseiterator") "__len__" = pure Option.none:=by rw [typeLookup_type,builtinLookup_eq_fast]; kernel_rfl
theorem rev_hint:typeLookup (.type "list_reverseiterator") "__length_hint__" = pure (some (.builtin "list_reverseiterator.__length_hint__")):=by rw [typeLookup_type,builtinLookup_eq_fast]; kernel_rfl
theorem list_of_rev {M:Program} {wd:World} {B:Around} {Er:Value->Shared->Prop} {s0:Shared} {j src:Addr} {xs:Array Value} {Qv:Value->Shared->Prop} (calm:B.in1.in1.handled=Option.none) (apart:src≠j) (srcL:s0.heap.IsList src xs)
  (walk:s0.heap.IsRevIter j src ((xs.size:Int) - 1 - ((0:Nat):Int))) (small:xs.size<=sizeLine) (jl:j < s0.heap.objs.size) (sl:src < s0.heap.objs.size)
  (fin:∀ s1 ys c,Moved [s0.heap.objs.size,j] (fun a b=>b=a) { s0 with heap:=s0.heap.push { cls:=.type "list",data:=.seq #[] } } s1->s1.heap.get? s0.heap.objs.size=some { cls:=.type "list",dict:=Option.none,data:=.seq ys c,slots:=#[] } ->
   ItemsOf (fun i v=>xs[xs.size - 1 - i]? = some v) ys xs.size->Qv (.ref s0.heap.objs.size) s1):wpAny (model M wd) B (call (.type "list") [.ref j]) Qv Er s0:=by
 have walks:=(Walks.listRev (prog:=M) (w:=wd) (A:=B.in1.in1) calm j src apart xs).toS
 have ty:∀ i (s:Shared),(i<=xs.size/\s.heap.IsRevIter j src ((xs.size:Int) - 1 - (i:Int))/\s.heap.IsList src xs)->s.TypeIs (.ref j) "list_reverseiterator":=fun _ _ z=>z.2.1.typeIs
 have out:s0.heap.objs.size ∉ [j,src]:=fun z=>by
  rcases List.mem_cons.mp z with e | z
  ·exact absurd jl (by rw [← e]; exact Nat.lt_irrefl _)
  ·exact absurd sl (by rw [← List.mem_singleton.mp z]; exact Nat.lt_irrefl _)
 have start:(0:Nat)<=xs.size/\s0.heap.IsRevIter j src ((xs.size:Int) - 1 - ((0:Nat):Int))/\s0.heap.IsList src xs:=⟨Nat.zero_le _,walk,srcL⟩
 generalize hD:s0.heap.objs.size=D at *
 have other:Builtin.List.listSameRef (.ref D) (.ref j)=false:=by
  have:D≠j:=fun e=>Nat.lt_irrefl _ (e ▸ jl)
  simp [Builtin.List.listSameRef,this]
 refine callType_codes (Q₁:=fun o t=>o=.ref D/\t={ s0 with heap:=s0.heap.push { cls:=.type "list",data:=.seq #[] } }) F.called_list (F.typeCall_list_1 _) F.entry_list_init (code_list_new _ ⟨congrArg _ hD,rfl⟩) fun o t ot=>?_
 obtain ⟨eo,et⟩:=ot
 subst eo et
 have new:(s0.heap.push { cls:=.type "list",data:=.seq #[] }).get? D=some { cls:=.type "list",data:=.seq #[] }:=by
  rw [← hD]
  exact Heap.get?_push_size _ rfl
 have st1:=walks.frame 0 s0 (s0.heap.push { cls:=.type "list",data:=.seq #[] }) s0.toks start (Nat.le_refl _) fun _ _ _ e=>Heap.get?_push_of_some _ e
 refine ⟨⟨_,new,rfl⟩,F.args_list_init_2 _ _,?_⟩
 generalize hs1:({ s0 with heap:=s0.heap.push { cls:=.type "list",data:=.seq #[] } }:Shared)=s1 at *
 have new1:s1.heap.get? D=some { cls:=.type "list",data:=.seq #[] }:=by rw [← hs1]; exact new
 -- list.__init__: emptied, then extended
 show wpAny _ B.in1.in1 (Builtin.List.listItems (.ref D) >>= fun old=>updateSeq D (fun _=>#[]) >>= fun _=>letGo old.toList.reverse >>= fun _=>Builtin.List.listExtendWith (.ref D) (.ref j) .none) _ _ s1
 refine wpAny_bind ?_
 unfold Builtin.List.listItems
 refine wpAny_bind (wpAny_seqItems new1 rfl (wpAny_pure (wpAny_bind (wpAny_updateSeq new1 rfl (wpAny_bind (wpAny_letGo ?_))))))
 have keep:∀ b o,b≠D->s1.heap.get? b=some o->(s1.heap.update D (Obj.mapSeq fun _=>(#[]:Array Value))).get? b=some o:=fun b o hb e=>by
  rw [Heap.get?_update_other _ _ (Ne.symm hb)]
  exact e
 have new2:=Heap.get?_update_self (Obj.mapSeq fun _=>(#[]:Array Value)) new1 rfl
 have st2:=walks.frame 0 s1 (s1.heap.update D (Obj.mapSeq fun _=>(#[]:Array Value))) s1.toks st1 (Nat.le_refl _) fun b hb o e=>keep b o (fun z=>out (z ▸ hb)) e
 have mv:Moved [D,j] (fun a b=>b=a) s1 { s1 with heap:=s1.heap.update D (Obj.mapSeq fun _=>(#[]:Array Value)) }:=⟨fun b o hb e=>keep b o (fun z=>hb (by simp [z])) e,rfl,rfl,rfl,Nat.le_refl _⟩
 generalize hs2:({ s1 with heap:=s1.heap.update D (Obj.mapSeq fun _=>(#[]:Array Value)) }:Shared)=s2 at *
 obtain ⟨c0,new3⟩:∃ c,s2.heap.get? D=some { cls:=.type "list",data:=.seq #[] c }:=by rw [← hs2]; exact ⟨_,new2⟩
 unfold Builtin.List.listExtendWith; refine wpAny_bind (wpAny_typeOf (ty 0 s2 st2) ?_)
 rw [if_neg (show ¬ _ by rw [other]; decide)]
 refine wpAny_bind (walks.self 0 _ _ _ st2 (wpAny_bind (wpAny_holding ?_)))
 unfold Builtin.List.listLengthHint; refine wpAny_bind (wpAny_specialOf (ty 0 s2 st2) rev_no_len ?_)
 refine wpAny_bind (wpAny_specialOf (ty 0 s2 st2) rev_hint ?_)
 generalize hid:("list_reverseiterator.__length_hint__" : String)=idh
 wp_delta
 rw [show splitId idh=some ("list_reverseiterator", "__length_hint__") by subst hid; decide +kernel]
 subst hid
 refine wpAny_bind (wpAny_isInstance (b:=true) (ty 0 s2 st2) (by rw [isSubtype_type]; kernel_rfl) (wpAny_pure ?_))
 rw [if_neg (show ¬ _ by decide)]
 refine wpAny_pure ⟨plainId_quiet F.plain_extend_loop _,codeAny_extend_loopS walks small _ out _ xs.size 0 _ _ _ rfl (Nat.zero_le _) st2 new3 (ItemsOf.nil _) fun s3 ys c m3 g3 it3=>?_⟩
 exact ⟨rfl,fin s3 ys c (Moved.trans (fun _ _ _ h1 h2=>h2.trans h1) mv m3) g3 it3⟩
def tListRev (K:PySem.W.Frag) (ta:TA):TE:=fun σ H Q=>ta σ H fun vs H1=>∃ (a:Addr) (xs:List V),vs=[.ref a]/\SqL K H1 a xs/\∀ l,H1 l=Option.none->Q (.ref l) (upd H1 l (.lst xs.reverse))
theorem vals_rev {xs:List V} {us:List Value} (r:Vals xs us):Vals xs.reverse us.reverse:=by
 induction r with
 | nil=>exact .nil
 | cons h t ih=>rw [List.reverse_cons,List.reverse_cons]; exact ih.append (.cons h .nil)
theorem items_rev {its:List Value} {acc:Array Value} (h:ItemsOf (fun i v=>its.toArray[its.toArray.size - 1 - i]? = some v) acc its.toArray.size):acc.toList=its.reverse:=by
 obtain ⟨hsz,hit⟩:=h
 refine List.ext_getElem? fun i=>?_
 by_cases c:i < its.length
 ·have hi:i < acc.size:=by
   rw [hsz]
   simpa using c
  have e:=hit i acc[i] (by simp [hi])
  rw [List.getElem?_reverse c,show acc.toList[i]? = some acc[i] by simp [hi]]
  simp at e
  exact e.symm
 ·have l0:acc.size=its.length:=by rw [hsz]; simp
  have l1:acc.toList.length<=i:=by rw [Array.length_toList,l0]; omega
  have l2:its.reverse.length<=i:=by rw [List.length_reverse]; omega
  rw [List.getElem?_eq_none l1,List.getElem?_eq_none l2]
theorem pe_listRev {X:Cx} {e:Expr} {ta:TA} {p1 p2 pos1 pos:Pos} (hcalm:X.calm=true) (hg1:Gl X "list") (hm1:X.mg "list" = Option.none) (hg:Gl X "reversed") (hm:X.mg "reversed" = Option.none) (ha:PA X [e] ta)
  (hs1:starEach [.Call (.Name "reversed" p2) [e] [] pos1] X.env=[(false,eval (.Call (.Name "reversed" p2) [e] [] pos1) X.env)]:=by rfl) (hs:starEach [e] X.env=[(false,eval e X.env)]:=by rfl) :
  PE X (.Call (.Name "list" p1) [.Call (.Name "reversed" p2) [e] [] pos1] [] pos) (tListRev X.K ta):=by
 intro pins s σ H Q I h
 refine wpAny_Call_Name_kw (ld_blt I hg1 hm1 bt_list (PyProof.Rows.callWith_type1 ?_ hs1 rfl))
 rw [hs1]
 refine Calls.spliced_cons (Call_ (ld_blt I hg hm boot_reversed5 (PyProof.Rows.callWith_type1 (thn (ha pos1 pins s σ H _ I h) fun us s1 ⟨vs,H1,I1,r1,q1⟩=>?_) hs rfl)))
 obtain ⟨a,xs,ee,hq,q⟩:=q1
 subst ee
 cases r1 with
 | cons r rr =>
  cases rr
  cases r
  obtain ⟨its,rv,p',hz⟩:=I1.list hq
  have hl:=rv.length
  refine call_reversed_list p'.isList (Calls.spliced_nil ?_)
  have hlt:a < s1.heap.objs.size:=p'.lt
  have sz:(s1.heap.push (revObj a ((its.toArray.size:Int) - 1))).objs.size=s1.heap.objs.size+1:=Heap.size_push _ _
  refine list_of_rev (s0:={ s1 with heap:=s1.heap.push (revObj a ((its.toArray.size:Int) - 1)) }) (j:=s1.heap.objs.size) (src:=a) (xs:=its.toArray) (I1.ok.hd hcalm) (Nat.ne_of_lt hlt) (p'.isList.push _) ?_ ?_ ?_ ?_ ?_
  ·have e1:((its.toArray.size:Nat):Int) - 1 - ((0:Nat):Int)=((its.toArray.size:Nat):Int) - 1:=by omega
   rw [e1]
   exact ⟨_,Heap.get?_push_size _ rfl,rfl,rfl⟩
  ·simp only [List.size_toArray]
   omega
  ·show _ < (s1.heap.push _).objs.size
   rw [sz]
   exact Nat.lt_succ_self _
  ·show _ < (s1.heap.push _).objs.size
   rw [sz]
   exact Nat.lt_succ_of_lt hlt
  ·intro s' acc' c' hm' hS' hacc
   have e0:s'={ s1 with heap:=s'.heap,toks:=s'.toks }:=by
    obtain ⟨h1,h2,h3,h4,h5⟩:=s'
    have a1:=hm'.gens
    have a2:=hm'.drawn
    have a3:=hm'.os
    simp only at a1 a2 a3
    subst a1 a2 a3
    rfl
   have kp:∀ b u,s1.heap.get? b=some u->s'.heap.get? b=some u:=fun b u e=>by
    have hb:=Heap.lt_size e
    refine hm'.heap b u (fun hmem=>?_) (Heap.get?_push_of_some _ (Heap.get?_push_of_some _ e))
    rw [show (Shared.heap { s1 with heap:=s1.heap.push (revObj a ((its.toArray.size:Int) - 1)) }).objs.size=s1.heap.objs.size+1 from sz] at hmem
    have:b=s1.heap.objs.size+1\/b=s1.heap.objs.size:=by simpa using hmem
    rcases this with z | z
    ·rw [z] at hb
     exact absurd (Nat.lt_of_succ_lt hb) (Nat.lt_irrefl _)
    ·rw [z] at hb
     exact absurd hb (Nat.lt_irrefl _)
   have fr:H1 (s1.heap.objs.size+1)=Option.none:=I1.hok.fresh (Nat.le_succ _)
   refine ⟨.ref (s1.heap.push (revObj a ((its.toArray.size:Int) - 1))).objs.size,_,?_,rfl,q _ (by rw [sz]; exact fr)⟩
   rw [e0]
   refine I1.laid (t':=s'.toks) kp (by rw [sz]; exact Nat.le_succ _) ?_
   refine ⟨by rw [List.length_reverse]; exact hz,its.reverse,c',vals_rev rv,?_⟩
   have:=hS'
   rw [show acc'=its.reverse.toArray by rw [← items_rev hacc]] at this
   exact this
end Lw
namespace Lw
open PySem PySem.Spec PyProof.Rows L2 PySem.SeqAt PySem.MeetsSeq PySem.MeetsSeq2 PySem.MeetsSeq3
open PySem.AutoSeq1 (wpAny_loadPart')
theorem ints_get {us:List Value} {ns:List Int} (h:IntsAre us ns):us.length=ns.length/\∀ i,i < ns.length->∃ a t,us[i]? = some (.int a t)/\ns.drop i=a :: ns.drop (i+1):=by
 induction h with
 | nil=>exact ⟨rfl,fun i hi=>absurd hi (Nat.not_lt_zero i)⟩
 | cons a t h ih =>
  refine ⟨congrArg (· + 1) ih.1,fun i hi=>?_⟩
  cases i with
  | zero=>exact ⟨a,t,rfl,rfl⟩
  | succ i=>exact ih.2 i (Nat.lt_of_succ_lt_succ hi)
theorem lt_turns (l b:Addr) (xs ys:Array Value) (m m2:Nat) (e1 e2:Option Addr) (f1 f2:Array (Option Value)) (ns ms:List Int) (hx:IntsAre xs.toList ns) (hy:IntsAre ys.toList ms) (todo:Nat) :
  ∀ i:Nat,xs.size - i=todo->i<=xs.size->i<=ys.size->Meets (Builtin.«list.__eq__.loop» ⟨[.ref l,.ref b,rawInt i,rawInt 0],[]⟩) fun _ R s =>
   s.heap.get? l=some ⟨.type "list",e1,.seq xs m,f1⟩/\s.heap.get? b=some ⟨.type "list",e2,.seq ys m2,f2⟩/\R (.ok (.ret (.bool (HT.lexLt (ns.drop i) (ms.drop i))))) s:=by
 have lx:xs.size=ns.length:=by have:=(ints_get hx).1; simpa using this
 have ly:ys.size=ms.length:=by have:=(ints_get hy).1; simpa using this
 induction todo with
 | zero =>
  intro i hk i1 i2 prog w A R s h
  obtain ⟨hp,g,d,tk,os⟩:=s
  obtain ⟨hl,hb,h⟩:=h
  wp_walk using wpAny_loadPart' hl,wpAny_loadPart' hb
  have q1:xs[((i:Nat):Int).toNat]? = none:=by simp; omega
  rw [q1]
  wp_walk using wpAny_loadPart' hl,wpAny_loadPart' hb
  show R (.ok (.ret (.bool (decide (xs.size < ys.size))))) _
  have d1:ns.drop i=[]:=List.drop_eq_nil_of_le (by omega)
  rw [d1] at h
  by_cases c:i < ms.length
  ·obtain ⟨a,t,_,dr⟩:=(ints_get hy).2 i c
   rw [dr,HT.lexLt_nil_cons] at h
   rw [decide_eq_true (show xs.size < ys.size by omega)]
   exact h
  ·rw [List.drop_eq_nil_of_le (by omega),HT.lexLt_nil_nil] at h
   rw [decide_eq_false (show ¬ xs.size < ys.size by omega)]
   exact h
 | succ todo ih =>
  intro i hk i1 i2 prog w A R s h
  obtain ⟨hp,g,d,tk,os⟩:=s
  obtain ⟨hl,hb,h⟩:=h
  obtain ⟨a,t,ga,da⟩:=(ints_get hx).2 i (by omega)
  have q1:xs[((i:Nat):Int).toNat]? = some (.int a t):=by simpa using ga
  wp_walk using wpAny_loadPart' hl,wpAny_loadPart' hb
  rw [q1]
  by_cases c:i < ms.length
  ·obtain ⟨a',t',gb,db⟩:=(ints_get hy).2 i c
   have q2:ys[((i:Nat):Int).toNat]? = some (.int a' t'):=by simpa using gb
   rw [q2]
   rw [da,db,HT.lexLt_cons] at h
   have nx:((i:Int)+1)=((i+1:Nat):Int):=by push_cast; rfl
   obtain ⟨e,he,hiff⟩:=HT.eqAt_int A.in1 ⟨hp,g,d,tk,os⟩ a t a' t'
   refine wpAny_bind (he prog w _ _ ?_)
   cases e with
   | true =>
    rw [if_pos (hiff.mp rfl)] at h
    wp_walk
    rw [nx]
    exact ⟨plainId_quiet plain_eq_loop _,codeAny_builtin entry_eq_loop (by
     rw [Around.under_plainId plain_eq_loop _]
     exact ih (i+1) (by omega) (by omega) (by omega) prog w A R _ ⟨hl,hb,h⟩)⟩
   | false =>
    rw [if_neg (fun z=>absurd (hiff.mpr z) Bool.false_ne_true)] at h
    have lt:=HT.rcLt_int A.in1 ⟨hp,g,d,tk,os⟩ a t a' t' prog w
    wp_walk using wpAny_loadPart' hl,wpAny_loadPart' hb
    rw [q1,q2]
    wp_walk using lt
    exact h
  ·have q2:ys[((i:Nat):Int).toNat]? = none:=by simp; omega
   rw [q2]
   wp_walk using wpAny_loadPart' hl,wpAny_loadPart' hb
   show R (.ok (.ret (.bool (decide (xs.size < ys.size))))) _
   rw [da,List.drop_eq_nil_of_le (show ms.length<=i by omega),HT.lexLt_cons_nil] at h
   rw [decide_eq_false (show ¬ xs.size < ys.size by omega)]
   exact h
theorem lt_lists (l b:Addr) (xs ys:Array Value) (m m2:Nat) (e1 e2:Option Addr) (f1 f2:Array (Option Value)) (ns ms:List Int) (hx:IntsAre xs.toList ns) (hy:IntsAre ys.toList ms) :
  Meets (Builtin.«list.__lt__» ⟨[.ref l,.ref b],[]⟩) fun _ R s=>s.heap.get? l=some ⟨.type "list",e1,.seq xs m,f1⟩/\s.heap.get? b=some ⟨.type "list",e2,.seq ys m2,f2⟩/\R (.ok (.ret (.bool (HT.lexLt ns ms)))) s:=by
 intro prog w A R s h
 obtain ⟨hp,g,d,tk,os⟩:=s
 obtain ⟨hl,hb,h⟩:=h
 have isl:=AutoSeq1.sub_list_list
 wp_walk using wpAny_loadPart' hl,wpAny_loadPart' hb
 exact ⟨plainId_quiet plain_eq_loop _,codeAny_builtin entry_eq_loop (by
  rw [Around.under_plainId plain_eq_loop _]
  exact lt_turns l b xs ys m m2 e1 e2 f1 f2 ns ms hx hy _ 0 rfl (Nat.zero_le _) (Nat.zero_le _) prog w A R _ ⟨hl,hb,h⟩)⟩
inductive LexAt (A:Around) (s:Shared):List Value->List Value->Bool->Prop
 | nil:LexAt A s [] [] false
 | eq {u v:Value} {us vs:List Value} {r:Bool}:EqAt A.in1 s u v true->LexAt A s us vs r->LexAt A s (u :: us) (v :: vs) r
 | ne {u v:Value} {us vs:List Value} {r:Bool}:EqAt A.in1 s u v false->(∀ (prog:Program) (w:World) (E:Value->Shared->Prop) (Q:Value->Shared->Prop),Q (.bool r) s->wpAny (model prog w) A.in1 (richCompare .Lt u v) Q E s)->LexAt A s (u :: us) (v :: vs) r
theorem lt_tuples (l b:Addr) (xs ys:Array Value) (m m2:Nat) (e1 e2:Option Addr) (f1 f2:Array (Option Value)) (hsz:xs.size=ys.size) (r:Bool) :
  Meets (Builtin.«tuple.__lt__» ⟨[.ref l,.ref b],[]⟩) fun A R s=>s.heap.get? l=some ⟨.type "tuple",e1,.seq xs m,f1⟩/\s.heap.get? b=some ⟨.type "tuple",e2,.seq ys m2,f2⟩/\LexAt A s xs.toList ys.toList r/\R (.ok (.ret (.bool r))) s :=
 .of_wp fun prog w A R s h=>by
  obtain ⟨hp,g,d,tk,os⟩:=s
  obtain ⟨hl,hb,hx,h⟩:=h
  have ist:=AutoSeq1.sub_tuple_tuple
  wp_walk using wpAny_loadPart' hl,wpAny_loadPart' hb,wpAny_forIn_list _ (fun rest b s'=>b.1=none/\s'=⟨hp,g,d,tk,os⟩/\∃ us vs:List Value,rest=us.zip vs/\LexAt A ⟨hp,g,d,tk,os⟩ us vs r) _
  case turn =>
   rintro ⟨y,x⟩ rest b s' ⟨hb',rfl,us,vs,hz,lx⟩
   cases lx with
   | nil=>cases hz
   | eq he lx =>
    rw [List.zip_cons_cons] at hz
    injection hz with hyx hrest
    injection hyx with hy hx
    subst hy hx
    refine wpAny_bind (he prog w _ _ ?_)
    wp_walk
    exact ⟨rfl,rfl,_,_,hrest,lx⟩
   | ne he hlt =>
    rw [List.zip_cons_cons] at hz
    injection hz with hyx hrest
    injection hyx with hy hx
    subst hy hx
    refine wpAny_bind (he prog w _ _ ?_)
    have lt:=hlt prog w
    wp_walk using lt
    exact ⟨_,rfl,by simpa using h⟩
  case fin =>
   rintro ⟨b1,b2⟩ s' ⟨hb',rfl,us,vs,hz,lx⟩
   simp only at hb'
   subst hb'
   cases lx with
   | nil =>
    wp_walk
    have e:decide (xs.size < ys.size)=false:=decide_eq_false (by omega)
    exact ⟨_,rfl,by simpa [Builtin.Tuple.tupleCompareSizes,e] using h⟩
   | eq he lx=>cases hz
   | ne he hlt=>cases hz
  case h=>exact ⟨rfl,rfl,_,_,rfl,hx⟩
abbrev Key:=Int×Int×Int×List Int
def keyLt (k k':Key):Bool:=if k.1=k'.1 then (if k.2.1=k'.2.1 then (if k.2.2.1=k'.2.2.1 then HT.lexLt k.2.2.2 k'.2.2.2 else decide (k.2.2.1 < k'.2.2.1)) else decide (k.2.1 < k'.2.1)) else decide (k.1 < k'.1)
def KeyIn (h:Heap) (u:Value) (k:Key):Prop:=∃ (q la:Addr) (t1 t2 t3:Tok) (e1 e2:Option Addr) (m1 m2:Nat) (f1 f2:Array (Option Value)) (ys:Array Value),u=.ref q/\h.get? q=some ⟨.type "tuple",e1,.seq #[.int k.1 t1,.int k.2.1 t2,.int k.2.2.1 t3,.ref la] m1,f1⟩/\h.get? la=some ⟨.type "list",e2,.seq ys m2,f2⟩/\IntsAre ys.toList k.2.2.2
theorem reads_ints {h:Heap} {us:List Value} {ns:List Int} (i:IntsAre us ns):∃ as,ReadsAll h us (ns.map PyData.int) as:=by
 induction i with
 | nil=>exact ⟨_,.nil⟩
 | cons a t _ ih =>
  obtain ⟨as,r⟩:=ih
  exact ⟨_,.cons (.int a t) r⟩
theorem eqv_ints:∀ ns ms:List Int,PyData.eqvAll (ns.map PyData.int) (ms.map PyData.int)=true↔ns=ms
 | [],[]=>by simp [PyData.eqvAll]
 | [],_ :: _=>by simp [PyData.eqvAll]
 | _ :: _,[]=>by simp [PyData.eqvAll]
 | a :: ns,b :: ms=>by
  show (PyData.eqv (.int a) (.int b) && PyData.eqvAll (ns.map PyData.int) (ms.map PyData.int))=true↔_
  rw [Bool.and_eq_true,eqv_ints ns ms,List.cons.injEq]
  show ((a == b)=true/\_)↔_
  rw [beq_iff_eq]
theorem lay_ints:∀ ns:List Int,PyData.canLayAll0 (ns.map PyData.int)=true
 | []=>rfl
 | _ :: ns=>lay_ints ns
theorem depth_ints:∀ ns:List Int,PyData.depthAll (ns.map PyData.int)=0
 | []=>rfl
 | a :: ns=>by
  show max (PyData.depth (.int a)) (PyData.depthAll (ns.map PyData.int))=0
  rw [depth_ints ns]
  rfl
theorem lex_self:∀ ns:List Int,HT.lexLt ns ns=false
 | []=>rfl
 | a :: ns=>by
  rw [HT.lexLt_cons,if_pos rfl]
  exact lex_self ns
theorem cmp_keys {prog:Program} {w:World} {A:Around} {E:Value->Shared->Prop} {s:Shared} {u v:Value} {k k':Key} {Q:Value->Shared->Prop} (hu:KeyIn s.heap u k) (hv:KeyIn s.heap v k') (room:A.units+8 < cLine) (h:Q (.bool (keyLt k k')) s) :
  wpAny (model prog w) A (richCompare .Lt u v) Q E s:=by
 obtain ⟨q,la,t1,t2,t3,e1,e2,m1,m2,f1,f2,ys,rfl,hq,hl,iy⟩:=hu
 obtain ⟨q',la',t1',t2',t3',e1',e2',m1',m2',f1',f2',ys',rfl,hq',hl',iy'⟩:=hv
 refine richCompare_meets_room (op:=.Lt) ⟨_,hq,rfl⟩ ⟨_,hq',rfl⟩ PySem.F.slot_tuple_lt PySem.F.entry_tuple_lt (PySem.F.args_tuple_lt_2 _ _) (lt_tuples q q' #[.int k.1 t1,.int k.2.1 t2,.int k.2.2.1 t3,.ref la] #[.int k'.1 t1',.int k'.2.1 t2',.int k'.2.2.1 t3',.ref la'] m1 m1' e1 e1' f1 f1' rfl (keyLt k k')) ⟨hq,hq',?_,(fun x=>nomatch x),h⟩ (by omega)
 obtain ⟨a,b,c,l⟩:=k
 obtain ⟨a',b',c',l'⟩:=k'
 unfold keyLt
 simp only at iy iy' ⊢
 have step:∀ {x y:Int} {t u:Tok} {us vs:List Value} {r:Bool},LexAt A s us vs r->LexAt A s (.int x t :: us) (.int y u :: vs) (if x=y then r else decide (x < y)):=fun {x y t u us vs r} lx=>by
  obtain ⟨e,he,hi⟩:=HT.eqAt_int A.in1 s x t y u
  by_cases z:x=y
  ·rw [if_pos z]
   rw [hi.mpr z] at he
   exact .eq he lx
  ·rw [if_neg z]
   have e0:e=false:=by
    cases e with
    | false=>rfl
    | true=>exact absurd (hi.mp rfl) z
   rw [e0] at he
   exact .ne he fun prog w E Q hQ=>HT.rcLt_int A.in1 s x t y u prog w E Q hQ
 refine step (step (step ?_))
 obtain ⟨as,r1⟩:=reads_ints (h:=s.heap) iy
 obtain ⟨bs,r2⟩:=reads_ints (h:=s.heap) iy'
 have eq:=eqAt_reads (.list (l.map PyData.int)) (.list (l'.map PyData.int)) A.in1 s (.ref la) (.ref la') _ _ (.list hl rfl rfl r1) (.list hl' rfl rfl r2) (lay_ints l) (lay_ints l') (by
  show A.units+1+min (PyData.depthAll (l.map PyData.int)+1) (PyData.depthAll (l'.map PyData.int)+1) < cLine
  rw [depth_ints,depth_ints]
  omega)
 have ev:PyData.eqv (.list (l.map PyData.int)) (.list (l'.map PyData.int))=PyData.eqvAll (l.map PyData.int) (l'.map PyData.int):=rfl
 rw [ev] at eq
 by_cases z:l=l'
 ·rw [(eqv_ints l l').mpr z] at eq
  rw [z,lex_self]
  exact .eq eq .nil
 ·have e0:PyData.eqvAll (l.map PyData.int) (l'.map PyData.int)=false:=Bool.eq_false_iff.mpr fun y=>z ((eqv_ints l l').mp y)
  rw [e0] at eq
  exact .ne eq fun prog w E Q hQ=>richCompare_meets_room (op:=.Lt) ⟨_,hl,rfl⟩ ⟨_,hl',rfl⟩ PySem.F.slot_list_lt PySem.F.entry_list_lt (PySem.F.args_list_lt_2 _ _) (lt_lists la la' ys ys' m2 m2' e2 e2' f2 f2' l l' iy iy') ⟨hl,hl',(fun x=>nomatch x),hQ⟩ (by show A.units+1 < cLine; omega)
theorem keyLt_irr (k:Key):keyLt k k=false:=by
 unfold keyLt
 simp [lex_self]
theorem lex_trans:∀ a b c:List Int,HT.lexLt a b=true->HT.lexLt b c=true->HT.lexLt a c=true
 | [],[],_,h,_=>by rw [HT.lexLt_nil_nil] at h; cases h
 | [],_ :: _,[],_,h=>by rw [HT.lexLt_cons_nil] at h; cases h
 | [],_ :: _,_ :: _,_,_=>HT.lexLt_nil_cons _ _
 | _ :: _,[],_,h,_=>by rw [HT.lexLt_cons_nil] at h; cases h
 | _ :: _,_ :: _,[],_,h=>by rw [HT.lexLt_cons_nil] at h; cases h
 | x :: a,y :: b,z :: c,h1,h2=>by
  rw [HT.lexLt_cons] at h1 h2 ⊢
  by_cases e1:x=y
  ·rw [if_pos e1] at h1
   by_cases e2:y=z
   ·rw [if_pos e2] at h2
    rw [if_pos (by omega)]
    exact lex_trans a b c h1 h2
   ·rw [if_neg e2] at h2
    rw [if_neg (by omega),e1]
    exact h2
  ·rw [if_neg e1] at h1
   have h1:x < y:=by simpa using h1
   by_cases e2:y=z
   ·rw [if_neg (by omega)]
    simp
    omega
   ·rw [if_neg e2] at h2
    have h2:y < z:=by simpa using h2
    rw [if_neg (by omega)]
    simp
    omega
theorem keyLt_trans {a b c:Key} (h1:keyLt a b=true) (h2:keyLt b c=true):keyLt a c=true :=
 lex_trans (a.1 :: a.2.1 :: a.2.2.1 :: a.2.2.2) (b.1 :: b.2.1 :: b.2.2.1 :: b.2.2.2) (c.1 :: c.2.1 :: c.2.2.1 :: c.2.2.2) h1 h2
def Stay (h0:Heap) (it S:Addr) (h:Heap):Prop:=∀ b o,b≠it->b≠S->h0.get? b=some o->h.get? b=some o
def Least (ks:List Key) (n:Nat) (k:Key):Prop:=∀ i k',i < n->ks[i]? = some k'->keyLt k' k=false
theorem Least.more {ks:List Key} {n:Nat} {k k2:Key} (h:Least ks n k) (h2:ks[n]? = some k2):(keyLt k2 k=true->Least ks (n+1) k2)/\(keyLt k2 k=false->Least ks (n+1) k):=by
 constructor
 ·intro lt i k' hi e
  rcases Nat.lt_succ_iff_lt_or_eq.mp hi with c | c
  ·cases z:keyLt k' k2 with
   | false=>rfl
   | true =>
    have:=keyLt_trans z lt
    rw [h i k' c e] at this
    cases this
  ·rw [c,h2] at e
   cases e
   exact keyLt_irr _
 ·intro lt i k' hi e
  rcases Nat.lt_succ_iff_lt_or_eq.mp hi with c | c
  ·exact h i k' c e
  ·rw [c,h2] at e
   cases e
   exact lt
theorem min_run {M:Program} {wd:World} {B:Around} {res:Result->Shared->Prop} {it src S:Addr} {xs:Array Value} {ks:List Key} {h0:Heap} (calm:B.in1.handled=Option.none) (n1:src≠it) (n2:S≠it) (n3:S≠src) (room:B.units+20 < cLine) (len:ks.length=xs.size)
  (keys:∀ (i:Nat) v k,xs[i]? = some v->ks[i]? = some k->∀ h,Stay h0 it S h->KeyIn h v k) (left:Nat) :
  ∀ (dn:Nat) (s:Shared) (vb:Value) (kb:Key) (bi c:Nat),xs.size=dn+left->xs[bi]? = some vb->ks[bi]? = some kb->Least ks dn kb->s.heap.IsListIter it src dn/\s.heap.IsList src xs->Stay h0 it S s.heap ->
   s.heap.get? S=some { cls:=.type "list",dict:=Option.none,data:=.seq #[vb,vb] c,slots:=#[] } ->
   (∀ (bi:Nat) v k h' tk,xs[bi]? = some v->ks[bi]? = some k->Least ks xs.size k->Stay h0 it S h'->res (.ok (.ret v)) { s with heap:=h',toks:=tk }) ->
   codeAny (model M wd) B (.builtin "min.loop" ⟨[.ref it,.none,.ref S],[]⟩) res s:=by
 have walk:=Walks.list (prog:=M) (w:=wd) (A:=B.in1) calm it src n1 xs
 have nm:(toString "min" ++ toString ".loop" : String) = "min.loop":=by decide
 have out:S ∉ [it]:=fun z=>n2 (List.mem_singleton.mp z)
 induction left with
 | zero =>
  intro dn s vb kb bi c hsz gb gk lb st stay hS fin
  refine codeAny_builtin F.entry_min_loop ?_
  rw [Around.under_plainId F.plain_min_loop _]
  show wpAny _ B.in1 (seqItems? (.ref S) >>= _) _ _ s
  refine wpAny_bind (wpAny_seqItems hS rfl (wpAny_bind (wpAny_tryCatch (walk.done s _ _ (by rw [hsz]; exact st) fun h' tk kp=>?_))))
  have hS':=kp S _ out hS
  show wpAny _ B.in1 (updateSeq S (fun _=>#[]) >>= _) _ _ _
  refine wpAny_bind (wpAny_updateSeq hS' rfl (wpAny_bind (wpAny_letGo (wpAny_pure ?_))))
  refine fin bi vb kb _ tk gb gk (by rw [hsz]; exact lb) fun b o b1 b2 e=>?_
  rw [Heap.get?_update_other _ _ (Ne.symm b2)]
  exact kp b o (fun z=>b1 (List.mem_singleton.mp z)) (stay b o b1 b2 e)
 | succ left ih =>
  intro dn s vb kb bi c hsz gb gk lb st stay hS fin
  have hlt:dn < xs.size:=by omega
  refine codeAny_builtin F.entry_min_loop ?_
  rw [Around.under_plainId F.plain_min_loop _]
  show wpAny _ B.in1 (seqItems? (.ref S) >>= _) _ _ s
  refine wpAny_bind (wpAny_seqItems hS rfl (wpAny_bind (wpAny_tryCatch (walk.item dn s _ _ hlt st fun v h' tk gv st' kp=>?_))))
  have hS':=kp S _ out hS
  have stay':Stay h0 it S h':=fun b o b1 b2 e=>kp b o (fun z=>b1 (List.mem_singleton.mp z)) (stay b o b1 b2 e)
  have gk2:ks[dn]? = some ks[dn]:=List.getElem?_eq_getElem (by omega)
  generalize ks[dn]=k2 at gk2
  show wpAny _ B.in1 (tryCatch (holding [v,v] (richCompare .Lt v vb >>= _)) _ >>= _) _ _ _
  refine wpAny_bind (wpAny_tryCatch (wpAny_holding (wpAny_bind (cmp_keys (s:={ s with heap:=h',toks:=tk }) (keys dn v k2 gv gk2 h' stay') (keys bi vb kb gb gk h' stay') (show B.units+1+8 < cLine by omega) ?_))))
  refine wpAny_bind (wpAny_holding (wpAny_truthy_bool (wpAny_bind (wpAny_letGo (wpAny_pure ?_)))))
  have more:=lb.more gk2
  cases hb:keyLt k2 kb with
  | true =>
   simp only [if_true]
   refine wpAny_bind (wpAny_updateSeq hS' rfl (wpAny_bind (wpAny_letGo ?_)))
   rw [nm]
   have oth:∀ b o,b≠S->h'.get? b=some o->(h'.update S (Obj.mapSeq fun _=>#[v,v])).get? b=some o:=fun b o z e=>by
    rw [Heap.get?_update_other _ _ (Ne.symm z)]
    exact e
   refine wpAny_pure ⟨plainId_quiet F.plain_min_loop _,ih (dn+1) _ v k2 dn _ (by omega) gv gk2 (more.1 hb) (walk.frame _ _ _ st' fun b hm o e=>oth b o (fun z=>?_) e) (fun b o b1 b2 e=>oth b o b2 (stay' b o b1 b2 e)) (Heap.get?_update_self _ hS' rfl) fun bi' v' k' h'' tk'' y1 y2 y3 y4=>fin bi' v' k' h'' tk'' y1 y2 y3 y4⟩
   have:b=it\/b=src:=by simpa using hm
   rcases this with q | q
   ·exact n2 (z.symm.trans q)
   ·exact n3 (z.symm.trans q)
  | false =>
   simp only [Bool.false_eq_true,if_false]
   refine wpAny_bind (wpAny_letGo ?_)
   rw [nm]
   exact wpAny_pure ⟨plainId_quiet F.plain_min_loop _,ih (dn+1) _ vb kb bi c (by omega) gb gk (more.2 hb) st' stay' hS' fun bi' v' k' h'' tk'' y1 y2 y3 y4=>fin bi' v' k' h'' tk'' y1 y2 y3 y4⟩
theorem min_keys {M:Program} {wd:World} {A:Around} {E:Value->Shared->Prop} {s:Shared} {src:Addr} {xs:Array Value} {ks:List Key} {Q:Value->Shared->Prop} (calm:A.handled=Option.none) (hl:s.heap.IsList src xs) (room:A.units+20 < cLine) (len:ks.length=xs.size) (pos:0 < xs.size)
  (keys:∀ (i:Nat) v k,xs[i]? = some v->ks[i]? = some k->KeyIn s.heap v k)
  (fin:∀ (i:Nat) v k h' tk,xs[i]? = some v->ks[i]? = some k->Least ks xs.size k->(∀ b o,s.heap.get? b=some o->h'.get? b=some o)->Q v { s with heap:=h',toks:=tk }):wpAny (model M wd) A (call (.builtin "min") [.ref src]) Q E s:=by
 have nm:(toString "min" ++ toString ".loop" : String) = "min.loop":=by decide
 refine call_function_tree F.kind_min F.plain_min F.entry_min (F.args_min1 _) ?_
 show wpAny _ A.in1 (Builtin.Builtins.bindParams "min" ["key", "default"] 0 ⟨[],[]⟩ >>= _) _ _ s
 refine wpAny_bind (wpAny_of_eq (show Builtin.Builtins.bindParams "min" ["key", "default"] 0 ⟨[],[]⟩=pure [Option.none,Option.none] from rfl) (wpAny_bind (wpAny_pure (wpAny_bind (iter_any hl fun s2 e2 st hne=>?_)))))
 subst e2
 refine wpAny_bind (wpAny_newObj_type ?_)
 rw [nm]
 refine wpAny_pure ⟨plainId_quiet F.plain_min_loop _,?_⟩
 -- the first item
 have sl:src < s.heap.objs.size:=by obtain ⟨o,e,_⟩:=hl; exact Heap.lt_size e
 have z1:(s.heap.push { cls:=.type "list_iterator",data:=.fields #[.ref src,.int 0 0] }).objs.size=s.heap.objs.size+1:=Heap.size_push _ _
 show codeAny (model M wd) A (.builtin "min.loop" ⟨[.ref s.heap.objs.size,.none,.ref (s.heap.push { cls:=.type "list_iterator",data:=.fields #[.ref src,.int 0 0] }).objs.size],[]⟩) _ _
 have new:((s.heap.push { cls:=.type "list_iterator",data:=.fields #[.ref src,.int 0 0] }).push { cls:=.type "list",data:=.seq #[] }).get? (s.heap.push { cls:=.type "list_iterator",data:=.fields #[.ref src,.int 0 0] }).objs.size=some { cls:=.type "list",data:=.seq #[] }:=Heap.get?_push_size _ rfl
 have kp0:∀ b o,s.heap.get? b=some o->((s.heap.push { cls:=.type "list_iterator",data:=.fields #[.ref src,.int 0 0] }).push { cls:=.type "list",data:=.seq #[] }).get? b=some o:=fun b o e=>Heap.get?_push_of_some _ (Heap.get?_push_of_some _ e)
 have walk:=Walks.list (prog:=M) (w:=wd) (A:=A.in1) calm s.heap.objs.size src hne xs
 have st1:=walk.frame 0 _ ((s.heap.push { cls:=.type "list_iterator",data:=.fields #[.ref src,.int 0 0] }).push { cls:=.type "list",data:=.seq #[] }) st fun b _ o e=>Heap.get?_push_of_some _ e
 rw [z1] at new ⊢
 have n2:s.heap.objs.size+1≠s.heap.objs.size:=Nat.succ_ne_self _
 have n3:s.heap.objs.size+1≠src:=Nat.ne_of_gt (Nat.lt_succ_of_lt sl)
 have old:∀ {b o},s.heap.get? b=some o->b≠s.heap.objs.size/\b≠s.heap.objs.size+1:=fun {b o} e=>by
  have:=Heap.lt_size e
  exact ⟨Nat.ne_of_lt this,Nat.ne_of_lt (Nat.lt_succ_of_lt this)⟩
 have keys':∀ (i:Nat) v k,xs[i]? = some v->ks[i]? = some k->∀ h,Stay s.heap s.heap.objs.size (s.heap.objs.size+1) h->KeyIn h v k:=fun i v k g1 g2 h stay=>by
  obtain ⟨q,la,t1,t2,t3,e1,e2,m1,m2,f1,f2,ys,hv,hq,hla,hi⟩:=keys i v k g1 g2
  exact ⟨q,la,t1,t2,t3,e1,e2,m1,m2,f1,f2,ys,hv,stay q _ (old hq).1 (old hq).2 hq,stay la _ (old hla).1 (old hla).2 hla,hi⟩
 generalize hs3:({ s with heap:=(s.heap.push { cls:=.type "list_iterator",data:=.fields #[.ref src,.int 0 0] }).push { cls:=.type "list",data:=.seq #[] } }:Shared)=s3
 have new3:s3.heap.get? (s.heap.objs.size+1)=some { cls:=.type "list",data:=.seq #[] }:=by rw [← hs3]; exact new
 have st3:s3.heap.IsListIter s.heap.objs.size src 0/\s3.heap.IsList src xs:=by rw [← hs3]; exact st1
 have kp3:∀ b o,s.heap.get? b=some o->s3.heap.get? b=some o:=by rw [← hs3]; exact kp0
 have rest:∀ h' tk,({ s3 with heap:=h',toks:=tk }:Shared)={ s with heap:=h',toks:=tk }:=by rw [← hs3]; exact fun _ _=>rfl
 refine codeAny_builtin F.entry_min_loop ?_
 rw [Around.under_plainId F.plain_min_loop _]
 show wpAny _ A.in1 (seqItems? (.ref (s.heap.objs.size+1)) >>= _) _ _ s3
 refine wpAny_bind (wpAny_seqItems new3 rfl (wpAny_bind (wpAny_tryCatch (walk.item 0 s3 _ _ pos st3 fun v h' tk gv st' kp=>?_))))
 have outS:s.heap.objs.size+1 ∉ [s.heap.objs.size]:=fun z=>n2 (List.mem_singleton.mp z)
 have hS':=kp _ _ outS new3
 have gk:ks[0]? = some ks[0]:=List.getElem?_eq_getElem (by omega)
 generalize ks[0]=k0 at gk
 show wpAny _ A.in1 (updateSeq (s.heap.objs.size+1) (fun _=>#[v,v]) >>= _) _ _ _
 refine wpAny_bind (wpAny_updateSeq hS' rfl ?_)
 rw [nm]
 have oth:∀ b o,b≠s.heap.objs.size+1->h'.get? b=some o->(h'.update (s.heap.objs.size+1) (Obj.mapSeq fun _=>#[v,v])).get? b=some o:=fun b o z e=>by
  rw [Heap.get?_update_other _ _ (Ne.symm z)]
  exact e
 refine wpAny_pure ⟨plainId_quiet F.plain_min_loop _,min_run (h0:=s.heap) (ks:=ks) calm hne n2 n3 room len keys' (xs.size - 1) 1 _ v k0 0 _ (by omega) gv gk (fun i k' hi e=>?_) (walk.frame _ _ _ st' fun b hm o e=>oth b o (fun z=>?_) e) (fun b o b1 b2 e=>oth b o b2 (kp b o (fun z=>b1 (List.mem_singleton.mp z)) (kp3 b o e))) (Heap.get?_update_self _ hS' rfl) fun bi v' k' h'' tk'' y1 y2 y3 y4=>?_⟩
 ·have:i=0:=by omega
  rw [this,gk] at e
  cases e
  exact keyLt_irr _
 ·have:b=s.heap.objs.size\/b=src:=by simpa using hm
  rcases this with q | q
  ·exact n2 (z.symm.trans q)
  ·exact n3 (z.symm.trans q)
 ·have:=fin bi v' k' h'' tk'' y1 y2 y3 fun b o e=>y4 b o (old e).1 (old e).2 e
  rw [← rest] at this
  exact this
def KeyAt (K:PySem.W.Frag) (H:Hp) (q:Addr) (k:Key):Prop:=∃ la,SqT K H q [.int k.1,.int k.2.1,.int k.2.2.1,.ref la]/\SqL K H la (k.2.2.2.map V.int)
def rMinK (K:PySem.W.Frag):List V->Hp->VK->Prop:=fun vs H Q=>∃ (a:Addr) (qs:List Addr) (ks:List Key),vs=[V.ref a]/\SqL K H a (qs.map V.ref)/\qs.length=ks.length/\0 < ks.length/\(∀ (i:Nat) q k,qs[i]? = some q->ks[i]? = some k->KeyAt K H q k) /\
 ∀ (i:Nat) q k,qs[i]? = some q->ks[i]? = some k->(∀ k'∈ks,keyLt k' k=false)->Q (.ref q) H
theorem cr_minK {X:Cx} (hc:X.calm=true) (hu:X.A.units+64 < cLine):CallR X (.builtin "min") (rMinK X.K):=by
 intro pins s σ H vs us Q I r h
 obtain ⟨a,qs,ks,rfl,hs,hl,hp,hk,q⟩:=h
 obtain ⟨its,rv,p,_⟩:=I.list hs
 rw [Vals.ref1 r]
 have ln:=rv.length
 rw [List.length_map] at ln
 have at_:∀ (i:Nat) v,its.toArray[i]? = some v->∃ q,qs[i]? = some q/\v=.ref q:=fun i v g=>by
  have g:its[i]? = some v:=by simpa using g
  have hi:i < qs.length:=by rw [ln]; exact (List.getElem?_eq_some_iff.mp g).1
  have g2:(qs.map V.ref)[i]? = some (.ref qs[i]):=by rw [List.getElem?_map,List.getElem?_eq_getElem hi]; rfl
  obtain ⟨u,hu,ru⟩:=rv.get g2
  rw [g] at hu
  cases hu
  cases ru
  exact ⟨_,List.getElem?_eq_getElem hi,rfl⟩
 refine min_keys (ks:=ks) (xs:=its.toArray) (I.ok.hd hc) p.isList (by omega) (by rw [List.size_toArray]; omega) (by rw [List.size_toArray]; omega) ?_ ?_
 ·intro i v k g1 g2
  obtain ⟨q',g3,rfl⟩:=at_ i v g1
  obtain ⟨la,ht,hll⟩:=hk i q' k g3 g2
  obtain ⟨ti,tv,⟨⟨cls,dd,data,sl⟩,ho,hcl,m,hd⟩,_⟩:=I.tuple ht
  obtain ⟨li,lv,pl,_⟩:=I.list hll
  obtain ⟨⟨cls2,dd2,data2,sl2⟩,ho2,hcl2,m2,hd2⟩:=pl.isList
  simp only at hcl hd hcl2 hd2
  subst hcl hd hcl2 hd2
  cases tv with
  | cons r1 tv =>
   cases tv with
   | cons r2 tv =>
    cases tv with
    | cons r3 tv =>
     cases tv with
     | cons r4 tv =>
      cases tv
      obtain ⟨t1,rfl⟩:=r1
      obtain ⟨t2,rfl⟩:=r2
      obtain ⟨t3,rfl⟩:=r3
      cases r4
      exact ⟨q',la,t1,t2,t3,dd,dd2,m,m2,sl,sl2,_,rfl,ho,ho2,intsAre_of lv⟩
 ·intro i v k h' tk g1 g2 least kp
  obtain ⟨q',g3,rfl⟩:=at_ i v g1
  refine ⟨.ref q',H,I.kept kp,rfl,q i q' k g3 g2 fun k' hk'=>?_⟩
  obtain ⟨j,hj,e⟩:=List.getElem_of_mem hk'
  exact least j k' (by rw [List.size_toArray]; omega) (by rw [List.getElem?_eq_getElem hj,e])
end Lw
namespace Wm
open Eh
theorem rootFrom_spec (n:Nat):∀ (k s:Nat),s*s<=n->n < (s+2 ^ k)*(s+2 ^ k)->rootFrom k n s*rootFrom k n s<=n/\n < (rootFrom k n s+1)*(rootFrom k n s+1)
 | 0,s,h1,h2=>⟨h1,h2⟩
 | k+1,s,h1,h2=>by
  unfold rootFrom
  have e:2 ^ (k+1)=2 ^ k+2 ^ k:=by rw [Nat.pow_succ]; omega
  by_cases c:(s+2 ^ k)*(s+2 ^ k)<=n
  ·rw [if_pos c]
   refine rootFrom_spec n k (s+2 ^ k) c ?_
   rw [Nat.add_assoc,← e]
   exact h2
  ·rw [if_neg c]
   exact rootFrom_spec n k s h1 (by omega)
theorem lt_sq_log (n:Nat):n < 2 ^ (n.log2 / 2+1)*2 ^ (n.log2 / 2+1):=by
 have h:n < 2 ^ (n.log2+1):=Nat.lt_log2_self
 rw [← Nat.pow_add]
 exact Nat.lt_of_lt_of_le h (Nat.pow_le_pow_right (by decide) (by omega))
theorem root_spec (n:Nat):root n*root n<=n/\n < (root n+1)*(root n+1):=by
 unfold root
 refine rootFrom_spec n _ 0 (Nat.zero_le _) ?_
 rw [Nat.zero_add]
 exact lt_sq_log n
theorem sq_lt {a b:Nat} (h:a*a < b*b):a < b:=by
 rcases Nat.lt_or_ge a b with c | c
 ·exact c
 ·exact absurd (Nat.mul_le_mul c c) (by omega)
theorem root_unique {n r:Nat} (h1:r*r<=n) (h2:n < (r+1)*(r+1)):root n=r:=by
 have ⟨a,b⟩:=root_spec n
 have c:r < root n+1:=sq_lt (Nat.lt_of_le_of_lt h1 b)
 have d:root n < r+1:=sq_lt (Nat.lt_of_le_of_lt a h2)
 omega
theorem root_lt {n r:Nat} (h:n < r*r):root n < r:=sq_lt (Nat.lt_of_le_of_lt (root_spec n).1 h)
end Wm
namespace Wm
open Eh
def leftC (a b p:Corner):Int:=(b.x - a.x)*(p.y - a.y) - (b.y - a.y)*(p.x - a.x)
def btwC (a b c:Int):Bool:=decide (min a b<=c) && decide (c<=max a b)
def onC (a b p:Corner):Bool:=leftC a b p == 0 && (btwC a.x b.x p.x && btwC a.y b.y p.y)
def meetC (a b c d:Corner):Bool:=(decide (leftC a b c*leftC a b d < 0) && decide (leftC c d a*leftC c d b < 0)) || (onC a b c || (onC a b d || (onC c d a || onC c d b)))
def dirC (a b:Corner):Bool:=!(b.x - a.x == 0 && b.y - a.y == 0) && (b.x - a.x == 0 || (b.y - a.y == 0 || (b.x - a.x == b.y - a.y || b.x - a.x == -(b.y - a.y))))
def alongC (a b c d:Corner):Bool:=(b.x - a.x)*(d.y - c.y) - (b.y - a.y)*(d.x - c.x) == 0
theorem r_beq (a b:Int):((a:Rat) == (b:Rat))=(a == b):=by
 by_cases c:a=b
 ·subst c; simp
 ·have c2:(a:Rat)≠(b:Rat):=fun h=>c (Rat.intCast_inj.mp h)
  rw [beq_eq_false_iff_ne.mpr c,beq_eq_false_iff_ne.mpr c2]
theorem r_beq0 (a:Int):((a:Rat) == 0)=(a == 0):=r_beq a 0
theorem r_lt (a b:Int):decide ((a:Rat) < (b:Rat))=decide (a < b):=decide_eq_decide.mpr Rat.intCast_lt_intCast
theorem r_le (a b:Int):decide ((a:Rat)<=(b:Rat))=decide (a<=b):=decide_eq_decide.mpr Rat.intCast_le_intCast
theorem r_min (a b:Int):min (a:Rat) (b:Rat)=((min a b:Int):Rat):=by
 rw [Rat.min_def,Int.min_def]
 by_cases c:a<=b
 ·rw [if_pos c,if_pos (Rat.intCast_le_intCast.mpr c)]
 ·rw [if_neg c,if_neg fun h=>c (Rat.intCast_le_intCast.mp h)]
theorem r_max (a b:Int):max (a:Rat) (b:Rat)=((max a b:Int):Rat):=by
 rw [Rat.max_def,Int.max_def]
 by_cases c:a<=b
 ·rw [if_pos c,if_pos (Rat.intCast_le_intCast.mpr c)]
 ·rw [if_neg c,if_neg fun h=>c (Rat.intCast_le_intCast.mp h)]
theorem left_at (a b p:Corner):left a.at_ b.at_ p.at_=((leftC a b p:Int):Rat):=by
 simp only [left,leftC,Corner.at_,Rat.intCast_sub,Rat.intCast_mul]
theorem btw_at (a b c:Int):between (a:Rat) (b:Rat) (c:Rat)=btwC a b c:=by
 unfold between btwC
 rw [r_min,r_max,r_le,r_le]
theorem on_at (a b p:Corner):onLine (a.at_,b.at_) p.at_=onC a b p:=by
 unfold onLine onC
 rw [left_at,r_beq0]
 show (_ && (between (a.x:Rat) (b.x:Rat) (p.x:Rat) && between (a.y:Rat) (b.y:Rat) (p.y:Rat)))=_
 rw [btw_at,btw_at]
theorem r_lt0 (z:Int):decide ((z:Rat) < 0)=decide (z < 0):=r_lt z 0
theorem meet_at (a b c d:Corner):meet (a.at_,b.at_) (c.at_,d.at_)=meetC a b c d:=by
 unfold meet meetC
 simp only [left_at,on_at,← Rat.intCast_mul,r_lt0]
theorem dir_at (a b:Corner):dirOk (a.at_,b.at_)=dirC a b:=by
 unfold dirOk dirC Corner.at_
 simp only [← Rat.intCast_sub,← Rat.intCast_neg,r_beq0,r_beq]
theorem along_at (a b c d:Corner):alongside (a.at_,b.at_) (c.at_,d.at_)=alongC a b c d:=by
 unfold alongside alongC Corner.at_
 simp only [← Rat.intCast_sub,← Rat.intCast_mul,r_beq0]
def faultC (r:Room):Option Fault :=
 if r.n < 3\/MOST < r.n then some ⟨1,0⟩
 else if r.h < 1\/WIDE < r.h\/STUFFS<=r.floor_\/STUFFS<=r.ceiling then some ⟨2,0⟩
 else match (List.range r.n).find? fun (i:Nat)=>decide (WIDE < (r.corner i).x) || (decide (WIDE < (r.corner i).y) || (decide ((r.corner i).x < 0) || (decide ((r.corner i).y < 0) || decide (STUFFS<=(r.corner i).stuff)))) with
 | some i=>some ⟨3,i⟩
 | none=>match (List.range r.n).find? fun (i:Nat)=>!dirC (r.corner i) (r.corner (i+1)) with
  | some i=>some ⟨4,i⟩
  | none=>match (List.range r.n).find? fun (i:Nat)=>alongC (r.corner i) (r.corner (i+1)) (r.corner (i+1)) (r.corner (i+1+1)) with
   | some i=>some ⟨5,i⟩
   | none=>match (List.range r.n).find? fun (i:Nat)=>(List.range r.n).any fun (j:Nat)=>!neighbours r.n i j && meetC (r.corner i) (r.corner (i+1)) (r.corner j) (r.corner (j+1)) with
    | some i=>some ⟨6,i⟩
    | none=>if r.area2<=0 then some ⟨7,0⟩ else none
theorem fault_eq (r:Room):r.fault=faultC r:=by
 unfold Room.fault faultC Room.line
 simp only [dir_at,along_at,meet_at]
 rfl
end Wm
namespace Wm
open Eh
theorem lesser_irrefl:∀ l:List Nat,lesser l l=false
 | []=>rfl
 | x :: l=>by
  unfold lesser
  rw [lesser_irrefl l]
  simp
theorem lesser_tri:∀ {l m:List Nat},l.length=m.length->lesser l m=false->lesser m l=false->l=m
 | [],[],_,_,_=>rfl
 | [],_ :: _,h,_,_=>by simp at h
 | _ :: _,[],h,_,_=>by simp at h
 | x :: l,y :: m,h,h1,h2=>by
  unfold lesser at h1 h2
  simp only [Bool.or_eq_false_iff,decide_eq_false_iff_not,Bool.and_eq_false_iff,beq_eq_false_iff_ne] at h1 h2
  have e:x=y:=by omega
  subst e
  have a:lesser l m=false:=by
   rcases h1.2 with q | q
   ·exact absurd rfl q
   ·exact q
  have b:lesser m l=false:=by
   rcases h2.2 with q | q
   ·exact absurd rfl q
   ·exact q
  rw [lesser_tri (by simpa using h) a b]
theorem lesser_trans:∀ {l m k:List Nat},lesser l m=true->lesser m k=true->lesser l k=true
 | [],_,_,h,_=>by simp [lesser] at h
 | _ :: _,[],_,h,_=>by simp [lesser] at h
 | _ :: _,_ :: _,[],_,h=>by simp [lesser] at h
 | x :: l,y :: m,z :: k,h1,h2=>by
  unfold lesser at *
  simp only [Bool.or_eq_true,decide_eq_true_eq,Bool.and_eq_true,beq_iff_eq] at *
  rcases h1 with a | ⟨a,a'⟩ <;> rcases h2 with b | ⟨b,b'⟩
  ·exact Or.inl (by omega)
  ·exact Or.inl (by omega)
  ·exact Or.inl (by omega)
  ·exact Or.inr ⟨by omega,lesser_trans a' b'⟩
theorem before_iff (p q:Path):p.before q=true↔p.length2 < q.length2\/(p.length2=q.length2/\(p.walls.length < q.walls.length\/(p.walls.length=q.walls.length/\lesser p.walls q.walls=true))):=by
 unfold Path.before
 simp only [Bool.or_eq_true,decide_eq_true_eq,Bool.and_eq_true,beq_iff_eq]
theorem before_irrefl (p:Path):p.before p=false:=by
 cases h:p.before p with
 | false=>rfl
 | true =>
  rw [before_iff,lesser_irrefl] at h
  rcases h with h | ⟨_,h | ⟨_,h⟩⟩
  ·omega
  ·omega
  ·cases h
theorem before_tri {p q:Path} (h1:p.before q=false) (h2:q.before p=false):p=q:=by
 have a:¬ p.before q=true:=by rw [h1]; exact Bool.false_ne_true
 have b:¬ q.before p=true:=by rw [h2]; exact Bool.false_ne_true
 rw [before_iff] at a b
 have e1:p.length2=q.length2:=by omega
 have e2:p.walls.length=q.walls.length:=by omega
 have e3:p.walls=q.walls:=by
  refine lesser_tri e2 ?_ ?_
  ·cases c:lesser p.walls q.walls with
   | false=>rfl
   | true=>exact absurd (Or.inr ⟨e1,Or.inr ⟨e2,c⟩⟩) a
  ·cases c:lesser q.walls p.walls with
   | false=>rfl
   | true=>exact absurd (Or.inr ⟨e1.symm,Or.inr ⟨e2.symm,c⟩⟩) b
 cases p
 cases q
 simp_all
theorem before_trans {p q r:Path} (h1:p.before q=true) (h2:q.before r=true):p.before r=true:=by
 rw [before_iff] at *
 rcases h1 with a | ⟨a,a'⟩
 ·rcases h2 with b | ⟨b,_⟩
  ·exact Or.inl (by omega)
  ·exact Or.inl (by omega)
 ·rcases h2 with b | ⟨b,b'⟩
  ·exact Or.inl (by omega)
  ·refine Or.inr ⟨by omega,?_⟩
   rcases a' with c | ⟨c,c'⟩
   ·rcases b' with d | ⟨d,_⟩ <;> exact Or.inl (by omega)
   ·rcases b' with d | ⟨d,d'⟩
    ·exact Or.inl (by omega)
    ·exact Or.inr ⟨by omega,lesser_trans c' d'⟩
theorem before_asymm {p q:Path} (h:p.before q=true):q.before p=false:=by
 cases c:q.before p with
 | false=>rfl
 | true =>
  have:=before_trans h c
  rw [before_irrefl] at this
  cases this
theorem insertBy_perm {α:Type} (f:α->α->Bool) (x:α):∀ l:List α,(insertBy f x l).Perm (x :: l)
 | []=>.refl _
 | y :: l=>by
  unfold insertBy
  by_cases c:f x y=true
  ·rw [if_pos c]
  ·rw [if_neg c]
   exact ((insertBy_perm f x l).cons y).trans (.swap x y l)
theorem sort_perm {α:Type} (f:α->α->Bool):∀ l:List α,(l.foldr (insertBy f) []).Perm l
 | []=>.refl _
 | x :: l=>(insertBy_perm f x _).trans ((sort_perm f l).cons x)
def Srt (l:List Path):Prop:=l.Pairwise fun a b=>b.before a=false
theorem insert_srt (x:Path):∀ l:List Path,Srt l->Srt (insertBy Path.before x l)
 | [],_=>List.pairwise_cons.mpr ⟨fun _ h=>(by simp at h),.nil⟩
 | y :: l,h=>by
  unfold insertBy
  have ⟨h1,h2⟩:=List.pairwise_cons.mp h
  by_cases c:x.before y=true
  ·rw [if_pos c]
   refine List.pairwise_cons.mpr ⟨fun z hz=>?_,h⟩
   rcases List.mem_cons.mp hz with e | hz
   ·subst e
    exact before_asymm c
   ·cases d:z.before x with
    | false=>rfl
    | true =>
     have:=before_trans d c
     rw [h1 z hz] at this
     cases this
  ·rw [if_neg c]
   refine List.pairwise_cons.mpr ⟨fun z hz=>?_,insert_srt x l h2⟩
   rcases List.mem_cons.mp ((insertBy_perm _ x l).mem_iff.mp hz) with e | hz
   ·subst e
    simpa using c
   ·exact h1 z hz
theorem sort_srt:∀ l:List Path,Srt (l.foldr (insertBy Path.before) [])
 | []=>.nil
 | x :: l=>insert_srt x _ (sort_srt l)
def pick (g:Path->Nat) (m:Option Path) (p:Path):Option Path:=match m with
 | none=>some p
 | some q=>if g q < g p then some p else some q
theorem bestOf_eq (r:Room) (b:Book) (band:Nat) (l:List Path):bestOf r b band l=l.foldl (pick (gainOf r b band)) none:=rfl
theorem pick_rest {g:Path->Nat} {m:Path}:∀ (l:List Path),(∀ p∈l,g p<=g m)->l.foldl (pick g) (some m)=some m
 | [],_=>rfl
 | p :: l,h=>by
  rw [List.foldl_cons]
  have e:pick g (some m) p=some m:=if_neg (Nat.not_lt.mpr (h p (List.mem_cons_self ..)))
  rw [e]
  exact pick_rest l fun q hq=>h q (List.mem_cons_of_mem _ hq)
theorem pick_low {g:Path->Nat} {m:Path}:∀ (l:List Path) (o:Option Path),(∀ p∈l,g p < g m)->(∀ q,o=some q->g q < g m)->∀ q,l.foldl (pick g) o=some q->g q < g m
 | [],o,_,h2,q,e=>h2 q e
 | p :: l,o,h1,h2,q,e=>by
  rw [List.foldl_cons] at e
  refine pick_low l (pick g o p) (fun z hz=>h1 z (List.mem_cons_of_mem _ hz)) (fun z hz=>?_) q e
  have hp:=h1 p (List.mem_cons_self ..)
  cases o with
  | none =>
   cases hz
   exact hp
  | some y =>
   have:(if g y < g p then some p else some y)=some z:=hz
   by_cases c:g y < g p
   ·rw [if_pos c] at this
    cases this
    exact hp
   ·rw [if_neg c] at this
    cases this
    exact h2 _ rfl
theorem pick_top {g:Path->Nat} {m:Path} (A B:List Path) (hA:∀ p∈A,g p < g m) (hB:∀ p∈B,g p<=g m):(A ++ m :: B).foldl (pick g) none=some m:=by
 rw [List.foldl_append,List.foldl_cons]
 have e:pick g (A.foldl (pick g) none) m=some m:=by
  cases c:A.foldl (pick g) none with
  | none=>rfl
  | some q=>exact if_pos (pick_low A none hA (fun _ z=>by cases z) q c)
 rw [e]
 exact pick_rest B hB
theorem first_place {m:Path}:∀ l:List Path,m∈l->∃ A B,l=A ++ m :: B/\m ∉ A
 | [],h=>by simp at h
 | x :: l,h=>by
  by_cases c:x=m
  ·subst c
   exact ⟨[],l,rfl,by simp⟩
  ·have h':m∈l:=by
    rcases List.mem_cons.mp h with q | q
    ·exact absurd q.symm c
    ·exact q
   obtain ⟨A,B,e,n⟩:=first_place l h'
   refine ⟨x :: A,B,by rw [e]; rfl,fun q=>?_⟩
   rcases List.mem_cons.mp q with q | q
   ·exact c q.symm
   ·exact n q
theorem best_sorted {g:Path->Nat} {l:List Path} {m:Path} (hm:m∈l) (h:∀ p∈l,g p < g m\/(g p=g m/\(p=m\/m.before p=true))):(l.foldr (insertBy Path.before) []).foldl (pick g) none=some m:=by
 have hs:=sort_srt l
 have hp:=sort_perm Path.before l
 generalize l.foldr (insertBy Path.before) []=l' at hs hp
 have hm':m∈l':=hp.mem_iff.mpr hm
 have h':∀ p∈l',g p < g m\/(g p=g m/\(p=m\/m.before p=true)):=fun p q=>h p (hp.mem_iff.mp q)
 -- the first place of m
 have split:∃ A B,l'=A ++ m :: B/\m ∉ A:=first_place _ hm'
 obtain ⟨A,B,e,hA⟩:=split
 subst e
 refine pick_top A B (fun p hpA=>?_) (fun p hpB=>?_)
 ·rcases h' p (List.mem_append_left _ hpA) with q | ⟨_,q | q⟩
  ·exact q
  ·exact absurd (q ▸ hpA) hA
  ·have:=(List.pairwise_append.mp hs).2.2 p hpA m (List.mem_cons_self ..)
   rw [q] at this
   cases this
 ·rcases h' p (List.mem_append_right _ (List.mem_cons_of_mem _ hpB)) with q | ⟨q,_⟩
  ·exact Nat.le_of_lt q
  ·exact Nat.le_of_eq q
end Wm
namespace Wm
open Eh
end Wm
namespace Wm
open Eh
def mirW (r:Room) (w:Nat) (p:Whole):Whole :=
 if w < r.n then
  let a:=r.corner w
  let b:=r.corner (w+1)
  if a.x=b.x then ⟨2*a.x - p.x,p.y,p.z⟩
  else if a.y=b.y then ⟨p.x,2*a.y - p.y,p.z⟩
  else if b.x - a.x=b.y - a.y then ⟨p.y - (a.y - a.x),p.x+(a.y - a.x),p.z⟩
  else ⟨a.x+a.y - p.y,a.x+a.y - p.x,p.z⟩
 else if w=r.n then ⟨p.x,p.y,-p.z⟩ else ⟨p.x,p.y,2*r.h - p.z⟩
theorem r_eq {a b:Int}:((a:Rat)=(b:Rat))↔a=b:=Rat.intCast_inj
theorem mir_pt (r:Room) (w:Nat) (p:Whole):r.mirror w p.pt=(mirW r w p).pt:=by
 unfold Room.mirror mirW Room.line Corner.at_ Whole.pt
 by_cases c:w < r.n
 ·simp only [if_pos c,r_eq,← Rat.intCast_sub]
  by_cases c1:(r.corner w).x=(r.corner (w+1)).x
  ·simp only [if_pos c1]
   simp
  ·simp only [if_neg c1]
   by_cases c2:(r.corner w).y=(r.corner (w+1)).y
   ·simp only [if_pos c2]
    simp
   ·simp only [if_neg c2]
    by_cases c3:(r.corner (w+1)).x - (r.corner w).x=(r.corner (w+1)).y - (r.corner w).y
    ·simp only [if_pos c3]
     simp
    ·simp only [if_neg c3]
     simp
 ·simp only [if_neg c]
  by_cases c1:w=r.n
  ·simp only [if_pos c1]
   simp
  ·simp only [if_neg c1]
   simp
def imgW (r:Room) (s:Whole) (l:List Nat):List Whole:=l.foldl (fun (m:List Whole) (w:Nat)=>mirW r w (m.headD s) :: m) [s]
theorem img_go (r:Room) (s:Whole):∀ (l:List Nat) (m:List Whole),m≠[]->l.foldl (fun (m:List Pt) (w:Nat)=>r.mirror w (m.headD s.pt) :: m) (m.map Whole.pt)=(l.foldl (fun (m:List Whole) (w:Nat)=>mirW r w (m.headD s) :: m) m).map Whole.pt
 | [],_,_=>rfl
 | w :: l,[],h=>absurd rfl h
 | w :: l,p :: m,_=>by
  have ih:=img_go r s l (mirW r w p :: p :: m) (by simp)
  show l.foldl _ (r.mirror w p.pt :: p.pt :: m.map Whole.pt)=_
  rw [mir_pt]
  exact ih
theorem img_pt (r:Room) (s:Whole) (l:List Nat):r.images s.pt l=(imgW r s l).map Whole.pt:=img_go r s l [s] (by simp)
def lastW (r:Room) (s:Whole) (l:List Nat):Whole:=l.foldl (fun p w=>mirW r w p) s
theorem img_head (r:Room) (s:Whole):∀ (l:List Nat) (p:Whole) (m:List Whole),(l.foldl (fun (m:List Whole) (w:Nat)=>mirW r w (m.headD s) :: m) (p :: m)).headD s=l.foldl (fun p w=>mirW r w p) p
 | [],_,_=>rfl
 | w :: l,p,m=>img_head r s l (mirW r w p) (p :: m)
def dist2W (p q:Whole):Int:=(q.x - p.x)*(q.x - p.x)+(q.y - p.y)*(q.y - p.y)+(q.z - p.z)*(q.z - p.z)
theorem dist2_pt (p q:Whole):dist2 p.pt q.pt=((dist2W p q:Int):Rat):=by
 simp only [dist2,dist2W,Whole.pt,Rat.intCast_add,Rat.intCast_sub,Rat.intCast_mul]
theorem headD_map (l:List Whole) (s:Whole):(l.map Whole.pt).headD s.pt=(l.headD s).pt:=by
 cases l <;> rfl
theorem length2_eq (r:Room) (s e:Whole) (l:List Nat):r.length2 s.pt e.pt l=((dist2W (lastW r s l) e:Int):Rat):=by
 unfold Room.length2
 rw [img_pt,headD_map,dist2_pt]
 have:(imgW r s l).headD s=lastW r s l:=img_head r s l s []
 rw [this]
theorem floor_len (r:Room) (s e:Whole) (l:List Nat):(r.length2 s.pt e.pt l).floor=dist2W (lastW r s l) e:=by
 rw [length2_eq,Rat.floor_intCast]
end Wm
namespace Wm
open Eh
def threes:Nat->List Int->List Corner
 | 0,_=>[]
 | n+1,l=>⟨l.getD 0 0,l.getD 1 0,stuffOf (l.getD 2 0)⟩ :: threes n (l.drop 3)
theorem threes_len:∀ (n:Nat) (l:List Int),(threes n l).length=n
 | 0,_=>rfl
 | n+1,l=>by
  show (threes n (l.drop 3)).length+1=n+1
  rw [threes_len n]
theorem corners_some:∀ (n:Nat) (l:List Int),l.length=3*n->cornersOf l=some (threes n l)
 | 0,[],_=>rfl
 | 0,_ :: _,h=>by simp at h
 | n+1,[],h=>by simp at h
 | n+1,[_],h=>by simp at h; omega
 | n+1,[_,_],h=>by simp at h; omega
 | n+1,x :: y :: s :: l,h=>by
  have h':l.length=3*n:=by simp at h; omega
  show (cornersOf l).map _=_
  rw [corners_some n l h']
  rfl
theorem corners_none:∀ (l:List Int),l.length % 3≠0->cornersOf l=none
 | [],h=>by simp at h
 | [_],_=>rfl
 | [_,_],_=>rfl
 | x :: y :: s :: l,h=>by
  have h':l.length % 3≠0:=by simp at h; omega
  show (cornersOf l).map _=_
  rw [corners_none l h']
  rfl
theorem threes_get:∀ (n:Nat) (l:List Int) (i:Nat),i < n->(threes n l)[i]? = some ⟨l.getD (3*i) 0,l.getD (3*i+1) 0,stuffOf (l.getD (3*i+2) 0)⟩
 | 0,_,i,h=>by omega
 | n+1,l,0,_=>rfl
 | n+1,l,i+1,h=>by
  show (threes n (l.drop 3))[i]? = _
  rw [threes_get n (l.drop 3) i (by omega)]
  simp only [List.getD_eq_getElem?_getD,List.getElem?_drop]
  have a:3+3*i=3*(i+1):=by omega
  have b:3+(3*i+1)=3*(i+1)+1:=by omega
  have c:3+(3*i+2)=3*(i+1)+2:=by omega
  rw [a,b,c]
def theRoom (l:List Int):Room:=⟨l.getD 0 0,stuffOf (l.getD 1 0),stuffOf (l.getD 2 0),threes (l.length / 3 - 1) (l.drop 3)⟩
theorem theRoom_n (l:List Int):(theRoom l).n=l.length / 3 - 1:=threes_len _ _
theorem theRoom_corner (l:List Int) (i:Nat) (h:i < l.length / 3 - 1):(theRoom l).corner i=⟨l.getD (3*i+3) 0,l.getD (3*i+4) 0,stuffOf (l.getD (3*i+5) 0)⟩:=by
 unfold Room.corner
 rw [theRoom_n,Nat.mod_eq_of_lt h,List.getD_eq_getElem?_getD]
 show (threes _ _)[i]?.getD _=_
 rw [threes_get _ _ i h]
 simp only [List.getD_eq_getElem?_getD,List.getElem?_drop,Option.getD_some]
 have a:3+3*i=3*i+3:=by omega
 have b:3+(3*i+1)=3*i+4:=by omega
 have c:3+(3*i+2)=3*i+5:=by omega
 rw [a,b,c]
theorem corner_wrap (r:Room) (i:Nat):r.corner (i % r.n)=r.corner i:=by
 unfold Room.corner
 rw [Nat.mod_mod]
def roomL (l:List Int):Except Fault Room :=
 if l.length < 3\/l.length % 3≠0 then .error ⟨1,0⟩
 else match faultC (theRoom l) with
  | some e=>.error e
  | none=>.ok (theRoom l)
theorem roomOf_eq (l:List Int):roomOf l=roomL l:=by
 unfold roomL
 match l with
 | []=>rfl
 | [_]=>rfl
 | [_,_]=>rfl
 | h :: f :: c :: r =>
  unfold roomOf
  by_cases q:r.length % 3=0
  ·have e:(h :: f :: c :: r).length=r.length+3:=rfl
   rw [if_neg (by rw [e]; omega)]
   have k:=corners_some (r.length / 3) r (by omega)
   have t:theRoom (h :: f :: c :: r)=⟨h,stuffOf f,stuffOf c,threes (r.length / 3) r⟩:=by
    unfold theRoom
    have:(h :: f :: c :: r).length / 3 - 1=r.length / 3:=by rw [e]; omega
    rw [this]
    rfl
   simp only [k,t,fault_eq]
   rfl
  ·have e:(h :: f :: c :: r).length=r.length+3:=rfl
   rw [if_pos (by rw [e]; omega)]
   have k:=corners_none r q
   simp only [k]
theorem fz {l:List Int} (h:∀ x∈l,0<=x):BaNeutral.fromZero l=true:=List.all_eq_true.mpr fun x hx=>decide_eq_true (h x hx)
def ofL (room:List Int) (book:List Nat) (f:Room->Book->List Int):List Int:=match roomL room with
 | .error e=>[-5,(e.rule:Int),(e.wall:Int)]
 | .ok r=>match bookOf book with
  | .error i=>[-6,(i:Int)]
  | .ok b=>f r b
theorem ofBook_told (room:List Int) (book:List Nat) (f:Room->Book->Ba.Answer):BaNeutral.told (Ba.ofBook room book f)=ofL room book fun r b=>BaNeutral.told (f r b):=by
 unfold Ba.ofBook ofL
 rw [roomOf_eq]
 cases roomL room with
 | error e=>rfl
 | ok r =>
  show BaNeutral.told (match bookOf book with | .error i=>.book i | .ok b=>f r b)=_
  cases bookOf book with
  | error i=>rfl
  | ok b=>rfl
end Wm
set_option exponentiation.threshold 2000
namespace Wm
open Eh
end Wm
namespace Wm
open Eh
def pathList (r:Room) (s e:Whole) (most:Nat):List Path:=((List.range (most+1)).flatMap fun (k:Nat)=>(rowsOf r.walls k).filter (r.isPath s.pt e.pt)).map fun (l:List Nat)=>(⟨dist2W (lastW r s l) e,l⟩:Path)
theorem paths_eq (r:Room) (s e:Whole) (most:Nat):r.paths s.pt e.pt most=(pathList r s e most).foldr (insertBy Path.before) []:=by
 unfold Room.paths pathList
 simp only [floor_len]
def insideB (r:Room) (p:Whole):Bool:=r.inside p.pt
def allL (s e:Whole) (room:List Int) (book:List Nat) (ok:Bool) (f:Room->Book->List Int):List Int:=ofL room book fun r b=>if ok=false then [-1] else if insideB r s=false\/insideB r e=false then [-3] else f r b
theorem ofAll_told (s e:Whole) (room:List Int) (book:List Nat) (ok:Bool) (f:Room->Book->Ba.Answer):BaNeutral.told (Ba.ofAll s e room book ok f)=allL s e room book ok fun r b=>BaNeutral.told (f r b):=by
 unfold Ba.ofAll allL insideB
 rw [ofBook_told]
 congr 1
 funext r b
 cases ok with
 | false=>rfl
 | true =>
  by_cases c:r.inside s.pt=false\/r.inside e.pt=false
  ·simp only [if_pos c]
   rfl
  ·simp only [if_neg c]
   rfl
theorem best_due {x y z u v t most band:Int} {room book:List Int} (hm:0<=most) (hk:0<=band) (hb:∀ x∈book,0<=x):PyYqbeca.best x y z u v t most band room book =
  allL ⟨x,y,z⟩ ⟨u,v,t⟩ room (BaNeutral.nats book) (decide (most<=4) && decide (band<=3)) fun r b=>match ((pathList r ⟨x,y,z⟩ ⟨u,v,t⟩ most.toNat).foldr (insertBy Path.before) []).foldl (pick (gainOf r b band.toNat)) none with
   | some p=>0 :: p.length2 :: p.walls.map fun (w:Nat)=>(w:Int)
   | none=>[-2]:=by
 have e:BaNeutral.callOf [[5,x,y,z,u,v,t,most,band],room,book]=some (.best ⟨x,y,z⟩ ⟨u,v,t⟩ most.toNat band.toNat room (BaNeutral.nats book)):=by
  show (if 0<=most/\0<=band/\BaNeutral.fromZero book=true then _ else _)=_
  rw [if_pos ⟨hm,hk,fz hb⟩]
 show (BaNeutral.step BaNeutral.start [[5,x,y,z,u,v,t,most,band],room,book]).2=_
 unfold BaNeutral.step
 rw [e]
 show BaNeutral.told (Ba.ofAll ⟨x,y,z⟩ ⟨u,v,t⟩ room (BaNeutral.nats book) (decide (most.toNat<=TURNS) && decide (band.toNat < BANDS)) _)=_
 have d:decide (most.toNat<=TURNS)=decide (most<=4):=by
  rw [decide_eq_decide]
  unfold TURNS
  omega
 have d2:decide (band.toNat < BANDS)=decide (band<=3):=by
  rw [decide_eq_decide]
  unfold BANDS
  omega
 rw [ofAll_told,d,d2]
 congr 1
 funext r b
 rw [bestOf_eq,paths_eq]
 cases ((pathList r ⟨x,y,z⟩ ⟨u,v,t⟩ most.toNat).foldr (insertBy Path.before) []).foldl (pick (gainOf r b band.toNat)) none with
 | some p=>rfl
 | none=>rfl
end Wm
namespace Wm
open Eh
theorem neg_of_mul {a b:Rat} (h:a*b < 0):(a < 0/\0 < b)\/(0 < a/\b < 0):=by
 rcases (show a < 0\/a=0\/0 < a by grind) with c | c | c
 ·rcases (show b < 0\/b=0\/0 < b by grind) with d | d | d
  ·have:=Rat.mul_pos (a:=-a) (b:=-b) (by grind) (by grind)
   grind
  ·rw [d,Rat.mul_zero] at h
   grind
  ·exact Or.inl ⟨c,d⟩
 ·rw [c,Rat.zero_mul] at h
  grind
 ·rcases (show b < 0\/b=0\/0 < b by grind) with d | d | d
  ·exact Or.inr ⟨c,d⟩
  ·rw [d,Rat.mul_zero] at h
   grind
  ·have:=Rat.mul_pos c d
   grind
theorem mul_of_neg {a b:Rat} (h:(a < 0/\0 < b)\/(0 < a/\b < 0)):a*b < 0:=by
 rcases h with ⟨c,d⟩ | ⟨c,d⟩
 ·have:=Rat.mul_pos (a:=-a) (b:=b) (by grind) d
  grind
 ·have:=Rat.mul_pos (a:=a) (b:=-b) c (by grind)
  grind
theorem div_pos_neg {a d:Rat} (h:0 < d):(0 < a / d↔0 < a)/\(a / d < 1↔a < d):=by
 constructor
 ·rw [Rat.lt_div_iff h,Rat.zero_mul]
 ·rw [Rat.div_lt_iff h,Rat.one_mul]
theorem div_neg_den {a d:Rat} (h:d < 0):a / d=(-a) / (-d):=by
 have:d≠0:=by grind
 grind
theorem frac_between {a b:Rat} (h:a≠b):(0 < a / (a - b)/\a / (a - b) < 1)↔a*b < 0:=by
 rcases (show a - b < 0\/0 < a - b by grind) with c | c
 ·rw [div_neg_den c,(div_pos_neg (a:=-a) (d:=-(a - b)) (by grind)).1,(div_pos_neg (a:=-a) (d:=-(a - b)) (by grind)).2]
  constructor
  ·intro ⟨x,y⟩
   exact mul_of_neg (Or.inl ⟨by grind,by grind⟩)
  ·intro x
   rcases neg_of_mul x with ⟨p,q⟩ | ⟨p,q⟩
   ·exact ⟨by grind,by grind⟩
   ·exact ⟨by grind,by grind⟩
 ·rw [(div_pos_neg (a:=a) (d:=a - b) c).1,(div_pos_neg (a:=a) (d:=a - b) c).2]
  constructor
  ·intro ⟨x,y⟩
   exact mul_of_neg (Or.inr ⟨by grind,by grind⟩)
  ·intro x
   rcases neg_of_mul x with ⟨p,q⟩ | ⟨p,q⟩
   ·exact ⟨by grind,by grind⟩
   ·exact ⟨by grind,by grind⟩
theorem frac_within {a b:Rat} (h:a≠b):(0<=a / (a - b)/\a / (a - b)<=1)↔a*b<=0:=by
 have k:=frac_between h
 have hd:a - b≠0:=by grind
 by_cases z:a=0
 ·subst z
  constructor
  ·intro _
   grind
  ·intro _
   have:(0:Rat) / (0 - b)=0:=by grind
   rw [this]
   exact ⟨by grind,by grind⟩
 · by_cases z2 : b = 0
   · subst z2
     constructor
     · intro _
       grind
     · intro _
       have:a / (a - 0)=1:=by grind
       rw [this]
       exact ⟨by grind,by grind⟩
   · have n0:a / (a - b)≠0:=by
       intro q
       have:a=a / (a - b)*(a - b):=(Rat.div_mul_cancel hd).symm
       rw [q] at this
       grind
     have n1:a / (a - b)≠1:=by
       intro q
       have:a=a / (a - b)*(a - b):=(Rat.div_mul_cancel hd).symm
       rw [q] at this
       grind
     have np:a*b≠0:=by
       intro q
       rcases Rat.mul_eq_zero.mp q with q | q
       · exact z q
       · exact z2 q
     constructor
     · intro ⟨x,y⟩
       have:=k.mp ⟨by grind,by grind⟩
       grind
     · intro x
       have:=k.mpr (by grind)
       exact ⟨by grind,by grind⟩
theorem touches_cross {p q:Pt} {l:Pt×Pt} (h:left l.1 l.2 p≠left l.1 l.2 q):touches p q l=(decide (left l.1 l.2 p*left l.1 l.2 q < 0) && decide (left p q l.1*left p q l.2<=0)):=by
 unfold touches
 have hd:turn (q.x - p.x) (q.y - p.y) (l.2.x - l.1.x) (l.2.y - l.1.y)=left l.1 l.2 p - left l.1 l.2 q:=by
  simp only [turn,left]
  grind
 have hd2:turn (q.x - p.x) (q.y - p.y) (l.2.x - l.1.x) (l.2.y - l.1.y)=-(left p q l.1 - left p q l.2):=by
  simp only [turn,left]
  grind
 have ht:turn (l.1.x - p.x) (l.1.y - p.y) (l.2.x - l.1.x) (l.2.y - l.1.y)=left l.1 l.2 p:=by
  simp only [turn,left]
  grind
 have hu:turn (l.1.x - p.x) (l.1.y - p.y) (q.x - p.x) (q.y - p.y)=-left p q l.1:=by
  simp only [turn,left]
  grind
 have hne:turn (q.x - p.x) (q.y - p.y) (l.2.x - l.1.x) (l.2.y - l.1.y)≠0:=by
  rw [hd]
  grind
 have hM:left p q l.1≠left p q l.2:=by
  intro z
  rw [hd2] at hne
  grind
 simp only [if_pos hne]
 rw [ht,hu]
 have e1:left l.1 l.2 p / turn (q.x - p.x) (q.y - p.y) (l.2.x - l.1.x) (l.2.y - l.1.y)=left l.1 l.2 p / (left l.1 l.2 p - left l.1 l.2 q):=by rw [hd]
 have e2:-left p q l.1 / turn (q.x - p.x) (q.y - p.y) (l.2.x - l.1.x) (l.2.y - l.1.y)=left p q l.1 / (left p q l.1 - left p q l.2):=by
  rw [hd2]
  have:left p q l.1 - left p q l.2≠0:=by grind
  grind
 rw [e1,e2]
 have a:=frac_between h
 have b:=frac_within hM
 generalize left l.1 l.2 p / (left l.1 l.2 p - left l.1 l.2 q)=t at a
 generalize left p q l.1 / (left p q l.1 - left p q l.2)=u at b
 by_cases c1:left l.1 l.2 p*left l.1 l.2 q < 0
 ·have ⟨x,y⟩:=a.mpr c1
  rw [decide_eq_true c1,decide_eq_true x,decide_eq_true y]
  by_cases c2:left p q l.1*left p q l.2<=0
  ·have ⟨x,y⟩:=b.mpr c2
   rw [decide_eq_true c2,decide_eq_true x,decide_eq_true y]
   rfl
  ·rw [decide_eq_false c2]
   have:¬ (0<=u/\u<=1):=fun z=>c2 (b.mp z)
   by_cases d:0<=u
   ·rw [decide_eq_true d,decide_eq_false fun z=>this ⟨d,z⟩]
    rfl
   ·rw [decide_eq_false d]
    rfl
 ·rw [decide_eq_false c1]
  have:¬ (0 < t/\t < 1):=fun z=>c1 (a.mp z)
  by_cases d:0 < t
  ·rw [decide_eq_true d,decide_eq_false fun z=>this ⟨d,z⟩]
   rfl
  ·rw [decide_eq_false d]
   rfl
end Wm
namespace Wm
open Eh
theorem pr_le (x y:Int):x*y<=0↔(x<=0/\0<=y)\/(0<=x/\y<=0):=by
 constructor
 ·intro h
  rcases Int.lt_trichotomy x 0 with a | a | a
  ·exact .inl ⟨Int.le_of_lt a,Int.not_lt.mp fun b=>absurd h (Int.not_le.mpr (Int.mul_pos_of_neg_of_neg a b))⟩
  ·rw [a]
   exact (Int.le_total 0 y).imp (fun q=>⟨Int.le_refl 0,q⟩) (fun q=>⟨Int.le_refl 0,q⟩)
  ·exact .inr ⟨Int.le_of_lt a,Int.not_lt.mp fun b=>absurd h (Int.not_le.mpr (Int.mul_pos a b))⟩
 ·rintro (⟨a,b⟩ | ⟨a,b⟩)
  ·exact Int.mul_nonpos_of_nonpos_of_nonneg a b
  ·exact Int.mul_nonpos_of_nonneg_of_nonpos a b
theorem pr_lt (x y:Int):x*y < 0↔(x < 0/\0 < y)\/(0 < x/\y < 0):=by
 constructor
 ·intro h
  have hx:x≠0:=fun e=>by subst e; simp at h
  have hy:y≠0:=fun e=>by subst e; simp at h
  exact ((pr_le x y).mp (Int.le_of_lt h)).imp (fun q=>⟨Int.lt_iff_le_and_ne.mpr ⟨q.1,hx⟩,Int.lt_iff_le_and_ne.mpr ⟨q.2,hy.symm⟩⟩) (fun q=>⟨Int.lt_iff_le_and_ne.mpr ⟨q.1,hx.symm⟩,Int.lt_iff_le_and_ne.mpr ⟨q.2,hy⟩⟩)
 ·rintro (⟨a,b⟩ | ⟨a,b⟩)
  ·exact Int.mul_neg_of_neg_of_pos a b
  ·exact Int.mul_neg_of_pos_of_neg a b
theorem pr_sq {L:Int} (h:L≠0):0 < L*L:=(Int.lt_or_gt_of_ne h).elim (fun a=>Int.mul_pos_of_neg_of_neg a a) (fun a=>Int.mul_pos a a)
theorem pr_sc (L x y:Int):(L*x)*(L*y)=(L*L)*(x*y):=by rw [Int.mul_assoc,Int.mul_assoc,Int.mul_left_comm x]
theorem pr_scale_le {L:Int} (h:L≠0) (x y:Int):(L*x)*(L*y)<=0↔x*y<=0:=by
 rw [pr_sc]
 exact ⟨fun g=>Int.not_lt.mp fun q=>absurd g (Int.not_le.mpr (Int.mul_pos (pr_sq h) q)),fun g=>Int.mul_nonpos_of_nonneg_of_nonpos (Int.le_of_lt (pr_sq h)) g⟩
theorem pr_scale_lt {L:Int} (h:L≠0) (x y:Int):(L*x)*(L*y) < 0↔x*y < 0:=by
 rw [pr_sc]
 exact ⟨fun g=>Int.not_le.mp fun q=>absurd g (Int.not_lt.mpr (Int.mul_nonneg (Int.le_of_lt (pr_sq h)) q)),fun g=>Int.mul_neg_of_pos_of_neg (pr_sq h) g⟩
def Unit8 (u v:Int):Prop:=(u=1/\v=0)\/(u=0/\v=1)\/(u=1/\v=1)\/(u=1/\v=-1)
theorem dir_unit {a b:Corner} (h:dirC a b=true):∃ u v L:Int,Unit8 u v/\L≠0/\b.x=a.x+L*u/\b.y=a.y+L*v:=by
 unfold dirC at h
 simp only [Bool.and_eq_true,Bool.not_eq_true',Bool.and_eq_false_iff,beq_eq_false_iff_ne,Bool.or_eq_true,beq_iff_eq] at h
 obtain ⟨h1,h2⟩:=h
 rcases h2 with h2 | h2 | h2 | h2
 ·exact ⟨0,1,b.y - a.y,.inr (.inl ⟨rfl,rfl⟩),by omega,by omega,by omega⟩
 ·exact ⟨1,0,b.x - a.x,.inl ⟨rfl,rfl⟩,by omega,by omega,by omega⟩
 ·exact ⟨1,1,b.x - a.x,.inr (.inr (.inl ⟨rfl,rfl⟩)),by omega,by omega,by omega⟩
 ·exact ⟨1,-1,b.x - a.x,.inr (.inr (.inr ⟨rfl,rfl⟩)),by omega,by omega,by omega⟩
def ell (u v:Int) (a p:Corner):Int:=u*(p.y - a.y) - v*(p.x - a.x)
theorem left_ell {a b:Corner} {u v L:Int} (hx:b.x=a.x+L*u) (hy:b.y=a.y+L*v) (p:Corner):leftC a b p=L*ell u v a p:=by
 unfold leftC ell
 rw [hx,hy]
 have e1:a.x+L*u - a.x=L*u:=by rw [Int.add_comm,Int.add_sub_cancel]
 have e2:a.y+L*v - a.y=L*v:=by rw [Int.add_comm,Int.add_sub_cancel]
 rw [e1,e2,Int.mul_assoc,Int.mul_assoc,← Int.mul_sub]
def rngC (a b c d:Int):Prop:=max (min a b) (min c d)<=min (max a b) (max c d)
def meetP (a b c d:Corner):Prop:=rngC a.x b.x c.x d.x/\rngC a.y b.y c.y d.y/\leftC a b c*leftC a b d<=0/\leftC c d a*leftC c d b<=0
theorem ell0 {L e:Int} (h:L≠0):L*e=0↔e=0:=by
 rw [Int.mul_eq_zero]
 constructor
 ·rintro (q | q)
  ·exact absurd q h
  ·exact q
 ·exact .inr
structure Two (ax ay bx by_ cx cy dx dy L M u v p q e1 e2 f1 f2:Int):Prop where
 hu:Unit8 u v
 hp:Unit8 p q
 hbx:bx=ax+L*u
 hby:by_=ay+L*v
 hdx:dx=cx+M*p
 hdy:dy=cy+M*q
 he1:e1=u*(cy - ay) - v*(cx - ax)
 he2:e2=u*(dy - ay) - v*(dx - ax)
 hf1:f1=p*(ay - cy) - q*(ax - cx)
 hf2:f2=p*(by_ - cy) - q*(bx - cx)
def mA (ax ay bx by_ cx cy dx dy e1 e2 f1 f2:Int):Prop :=
 ((((e1 < 0 ∧ 0 < e2) ∨ (0 < e1 ∧ e2 < 0)) ∧ ((f1 < 0 ∧ 0 < f2) ∨ (0 < f1 ∧ f2 < 0))) ∨
     (e1=0/\(min ax bx<=cx/\cx<=max ax bx)/\(min ay by_<=cy/\cy<=max ay by_))\/(e2=0/\(min ax bx<=dx/\dx<=max ax bx)/\(min ay by_<=dy/\dy<=max ay by_)) \/
     (f1=0/\(min cx dx<=ax/\ax<=max cx dx)/\(min cy dy<=ay/\ay<=max cy dy))\/(f2=0/\(min cx dx<=bx/\bx<=max cx dx)/\(min cy dy<=by_/\by_<=max cy dy)))
def mB (ax ay bx by_ cx cy dx dy e1 e2 f1 f2:Int):Prop :=
 ((min ax bx<=max cx dx/\min cx dx<=max ax bx)/\(min ay by_<=max cy dy/\min cy dy<=max ay by_))/\((e1<=0/\0<=e2)\/(0<=e1/\e2<=0))/\((f1<=0/\0<=f2)\/(0<=f1/\f2<=0))
theorem Two.e2_eq {ax ay bx by_ cx cy dx dy L M u v p q e1 e2 f1 f2:Int} (T:Two ax ay bx by_ cx cy dx dy L M u v p q e1 e2 f1 f2):e2=e1+M*(u*q - v*p):=by
 rw [T.he1,T.he2,T.hdx,T.hdy]
 grind
theorem Two.f2_eq {ax ay bx by_ cx cy dx dy L M u v p q e1 e2 f1 f2:Int} (T:Two ax ay bx by_ cx cy dx dy L M u v p q e1 e2 f1 f2):f2=f1 - L*(u*q - v*p):=by
 rw [T.hf1,T.hf2,T.hbx,T.hby]
 grind
theorem Two.at_ {ax ay bx by_ cx cy dx dy L M u v p q e1 e2 f1 f2 X Y t r:Int} (T:Two ax ay bx by_ cx cy dx dy L M u v p q e1 e2 f1 f2) (h1:X=ax+t*u) (h2:Y=ay+t*v) (h4:X=cx+r*p) (h5:Y=cy+r*q) :
  e1=-(r*(u*q - v*p))/\f1=t*(u*q - v*p):=by
 have a:cx=ax+t*u - r*p:=by rw [← h1,h4,Int.add_sub_cancel]
 have b:cy=ay+t*v - r*q:=by rw [← h2,h5,Int.add_sub_cancel]
 rw [T.he1,T.hf1,a,b]
 constructor <;> grind
def Btw (t L:Int):Prop:=(0<=t/\t<=L)\/(L<=t/\t<=0)
theorem mul_same {x y D:Int} (h:(0<=x/\0<=y)\/(x<=0/\y<=0)):(0<=x*D/\0<=y*D)\/(x*D<=0/\y*D<=0):=by
 rcases Int.le_total 0 D with d | d
 ·rcases h with ⟨a,b⟩ | ⟨a,b⟩
  ·exact .inl ⟨Int.mul_nonneg a d,Int.mul_nonneg b d⟩
  ·exact .inr ⟨Int.mul_nonpos_of_nonpos_of_nonneg a d,Int.mul_nonpos_of_nonpos_of_nonneg b d⟩
 ·rcases h with ⟨a,b⟩ | ⟨a,b⟩
  ·exact .inr ⟨Int.mul_nonpos_of_nonneg_of_nonpos a d,Int.mul_nonpos_of_nonneg_of_nonpos b d⟩
  ·exact .inl ⟨Int.mul_nonneg_of_nonpos_of_nonpos a d,Int.mul_nonneg_of_nonpos_of_nonpos b d⟩
theorem same_of_mul {x y D:Int} (hD:D≠0) (h:(0<=x*D/\0<=y*D)\/(x*D<=0/\y*D<=0)):(0<=x/\0<=y)\/(x<=0/\y<=0):=by
 rcases Int.lt_or_gt_of_ne hD with d | d
 ·have n:∀ z:Int,0<=z*D->z<=0:=fun z hz=>Int.not_lt.mp fun q=>absurd hz (Int.not_le.mpr (Int.mul_neg_of_pos_of_neg q d))
  have m:∀ z:Int,z*D<=0->0<=z:=fun z hz=>Int.not_lt.mp fun q=>absurd hz (Int.not_le.mpr (Int.mul_pos_of_neg_of_neg q d))
  rcases h with ⟨a,b⟩ | ⟨a,b⟩
  ·exact .inr ⟨n x a,n y b⟩
  ·exact .inl ⟨m x a,m y b⟩
 ·have n:∀ z:Int,0<=z*D->0<=z:=fun z hz=>Int.not_lt.mp fun q=>absurd hz (Int.not_le.mpr (Int.mul_neg_of_neg_of_pos q d))
  have m:∀ z:Int,z*D<=0->z<=0:=fun z hz=>Int.not_lt.mp fun q=>absurd hz (Int.not_le.mpr (Int.mul_pos q d))
  rcases h with ⟨a,b⟩ | ⟨a,b⟩
  ·exact .inl ⟨n x a,n y b⟩
  ·exact .inr ⟨m x a,m y b⟩
def U1 (u:Int):Prop:=u=0\/u=1\/u=-1
theorem Unit8.fst {u v:Int} (h:Unit8 u v):U1 u:=by
 rcases h with ⟨a,_⟩ | ⟨a,_⟩ | ⟨a,_⟩ | ⟨a,_⟩
 ·exact .inr (.inl a)
 ·exact .inl a
 ·exact .inr (.inl a)
 ·exact .inr (.inl a)
theorem Unit8.snd {u v:Int} (h:Unit8 u v):U1 v:=by
 rcases h with ⟨_,a⟩ | ⟨_,a⟩ | ⟨_,a⟩ | ⟨_,a⟩
 ·exact .inl a
 ·exact .inr (.inl a)
 ·exact .inr (.inl a)
 ·exact .inr (.inr a)
theorem btw_sub {t L:Int}:Btw t L↔(0<=t/\0<=L - t)\/(t<=0/\L - t<=0) :=
 ⟨fun h=>h.imp (fun q=>⟨q.1,Int.sub_nonneg_of_le q.2⟩) (fun q=>⟨q.2,Int.sub_nonpos_of_le q.1⟩),fun h=>h.imp (fun q=>⟨q.1,Int.le_of_sub_nonneg q.2⟩) (fun q=>⟨Int.le_of_sub_nonpos q.2,q.1⟩)⟩
theorem btw_times {t L:Int} (D:Int) (h:Btw t L):Btw (t*D) (L*D):=by
 rw [btw_sub,← Int.sub_mul]
 exact mul_same (btw_sub.mp h)
theorem btw_div {t L D:Int} (hD:D≠0) (h:Btw (t*D) (L*D)):Btw t L:=by
 rw [btw_sub,← Int.sub_mul] at h
 exact btw_sub.mpr (same_of_mul hD h)
theorem btw_mul {g f u:Int} (_:U1 u) (h:Btw f g):Btw (f*u) (g*u):=btw_times u h
theorem add_le_self (a:Int) {b:Int} (h:b<=0):a+b<=a:=Int.le_trans (Int.add_le_add_left h a) (Int.le_of_eq (Int.add_zero a))
theorem within_of {a b X t L u:Int} (hu:U1 u) (hb:b=a+L*u) (hX:X=a+t*u) (h:Btw t L):min a b<=X/\X<=max a b:=by
 have k:=btw_mul hu h
 rw [hb,hX,Std.min_le,Std.le_max]
 exact k.elim (fun q=>⟨.inl (Int.le_add_of_nonneg_right q.1),.inr (Int.add_le_add_left q.2 _)⟩) (fun q=>⟨.inr (Int.add_le_add_left q.1 _),.inl (add_le_self _ q.2)⟩)
def Opp (x y:Int):Prop:=(x<=0/\0<=y)\/(0<=x/\y<=0)
theorem opp_e {e f w:Int} (h:f=e+w):Opp e f↔Btw (-e) w:=by
 have g:f=w - -e:=by rw [h,Int.sub_neg,Int.add_comm]
 rw [btw_sub,← g]
 exact ⟨fun q=>q.imp (fun q=>⟨Int.neg_nonneg_of_nonpos q.1,q.2⟩) (fun q=>⟨Int.neg_nonpos_of_nonneg q.1,q.2⟩),fun q=>q.imp (fun q=>⟨Int.nonpos_of_neg_nonneg q.1,q.2⟩) (fun q=>⟨Int.nonneg_of_neg_nonpos q.1,q.2⟩)⟩
theorem opp_f {e f w:Int} (h:f=e - w):Opp e f↔Btw e w:=by
 rw [h]
 exact ⟨fun q=>q.elim (fun q=>.inr ⟨Int.le_of_sub_nonneg q.2,q.1⟩) (fun q=>.inl ⟨q.1,Int.le_of_sub_nonpos q.2⟩),fun q=>q.elim (fun q=>.inr ⟨q.1,Int.sub_nonpos_of_le q.2⟩) (fun q=>.inl ⟨q.2,Int.sub_nonneg_of_le q.1⟩)⟩
theorem opp_lt {x y:Int} (h:(x < 0/\0 < y)\/(0 < x/\y < 0)):Opp x y:=h.imp (And.imp Int.le_of_lt Int.le_of_lt) (And.imp Int.le_of_lt Int.le_of_lt)
theorem opp_ne {x y:Int} (h:Opp x y) (a:x≠0) (b:y≠0):(x < 0/\0 < y)\/(0 < x/\y < 0):=h.imp (fun q=>⟨Int.lt_iff_le_and_ne.mpr ⟨q.1,a⟩,Int.lt_iff_le_and_ne.mpr ⟨q.2,b.symm⟩⟩) (fun q=>⟨Int.lt_iff_le_and_ne.mpr ⟨q.1,a.symm⟩,Int.lt_iff_le_and_ne.mpr ⟨q.2,b⟩⟩)
theorem opp_self {x:Int} (h:Opp x x):x=0:=h.elim (fun q=>Int.le_antisymm q.1 q.2) (fun q=>Int.le_antisymm q.2 q.1)
theorem on_two {ax ay bx by_ cx cy dx dy L M u v p q e1 e2 f1 f2 X Y t r:Int} (T:Two ax ay bx by_ cx cy dx dy L M u v p q e1 e2 f1 f2) (h1:X=ax+t*u) (h2:Y=ay+t*v) (h3:Btw t L)
  (h4:X=cx+r*p) (h5:Y=cy+r*q) (h6:Btw r M):mB ax ay bx by_ cx cy dx dy e1 e2 f1 f2:=by
 have ⟨a,b⟩:=T.at_ h1 h2 h4 h5
 have e2:=T.e2_eq
 have f2:=T.f2_eq
 have x1:=within_of T.hu.fst T.hbx h1 h3
 have x2:=within_of T.hp.fst T.hdx h4 h6
 have y1:=within_of T.hu.snd T.hby h2 h3
 have y2:=within_of T.hp.snd T.hdy h5 h6
 refine ⟨⟨⟨Int.le_trans x1.1 x2.2,Int.le_trans x2.1 x1.2⟩,Int.le_trans y1.1 y2.2,Int.le_trans y2.1 y1.2⟩,(opp_e e2).mpr ?_,(opp_f f2).mpr ?_⟩
 ·rw [a,Int.neg_neg]
  exact btw_times _ h6
 ·rw [b]
  exact btw_times _ h3
theorem line_t {ax ay u v cx cy:Int} (hu:Unit8 u v) (h:u*(cy - ay) - v*(cx - ax)=0):∃ t,cx=ax+t*u/\cy=ay+t*v:=by
 rcases hu with ⟨rfl,rfl⟩ | ⟨rfl,rfl⟩ | ⟨rfl,rfl⟩ | ⟨rfl,rfl⟩
 ·exact ⟨cx - ax,by omega,by omega⟩
 ·exact ⟨cy - ay,by omega,by omega⟩
 ·exact ⟨cx - ax,by omega,by omega⟩
 ·exact ⟨cx - ax,by omega,by omega⟩
theorem t_btw {ax ay bx by_ u v cx cy L t:Int} (hu:Unit8 u v) (hbx:bx=ax+L*u) (hby:by_=ay+L*v) (hx:cx=ax+t*u) (hy:cy=ay+t*v) (rx:min ax bx<=cx/\cx<=max ax bx) (ry:min ay by_<=cy/\cy<=max ay by_):Btw t L:=by
 unfold Btw
 rcases hu with ⟨rfl,rfl⟩ | ⟨rfl,rfl⟩ | ⟨rfl,rfl⟩ | ⟨rfl,rfl⟩
 ·clear hby hy ry
  omega
 ·clear hbx hx rx
  omega
 ·clear hby hy ry
  omega
 ·clear hby hy ry
  omega
theorem dets {u v p q:Int} (hu:Unit8 u v) (hp:Unit8 p q):(u*q - v*p=0/\p=u/\q=v)\/u*q - v*p=1\/u*q - v*p=-1\/u*q - v*p=2\/u*q - v*p=-2:=by
 rcases hu with ⟨rfl,rfl⟩ | ⟨rfl,rfl⟩ | ⟨rfl,rfl⟩ | ⟨rfl,rfl⟩ <;> rcases hp with ⟨rfl,rfl⟩ | ⟨rfl,rfl⟩ | ⟨rfl,rfl⟩ | ⟨rfl,rfl⟩ <;> decide
theorem btw_in {p q x:Int} (h:Btw x (q - p)):min p q<=p+x/\p+x<=max p q:=by
 rw [Std.min_le,Std.le_max]
 exact h.elim (fun q=>⟨.inl (Int.le_add_of_nonneg_right q.1),.inr (Int.add_le_of_le_sub_left q.2)⟩) (fun q=>⟨.inr (Int.le_add_of_sub_left_le q.1),.inl (add_le_self _ q.2)⟩)
theorem cross_coord {a b c d D f e L M u p:Int} (hD:D=1\/D=-1\/D=2\/D=-2) (hu:U1 u) (hp:U1 p) (hb:b=a+L*u) (hd:d=c+M*p) (hX:D*a+f*u=D*c - e*p) (hf:Btw f (L*D)) (he:Btw (-e) (M*D)):min a b<=max c d/\min c d<=max a b:=by
 have b1:=btw_mul hu hf
 have b2:=btw_mul hp he
 have e1:L*D*u=D*b - D*a:=by rw [hb]; grind
 have e2:M*D*p=D*d - D*c:=by rw [hd]; grind
 have e3:-e*p=-(e*p):=Int.neg_mul _ _
 rw [e1] at b1
 rw [e2,e3] at b2
 have r1:=btw_in b1
 have r2:=btw_in b2
 have ex:D*a+f*u=D*c + -(e*p):=by rw [hX,Int.sub_eq_add_neg]
 have s1:min (D*a) (D*b)<=max (D*c) (D*d):=Int.le_trans r1.1 (ex ▸ r2.2)
 have s2:min (D*c) (D*d)<=max (D*a) (D*b):=Int.le_trans r2.1 (ex ▸ r1.2)
 rw [Std.min_le,Std.le_max,Std.le_max] at s1 s2
 rw [Std.min_le,Std.le_max,Std.le_max,Std.min_le,Std.le_max,Std.le_max]
 rcases (show 0 < D\/D < 0 by clear b1 b2 r1 r2 s1 s2; omega) with g | g
 ·have l:∀ {u v:Int},D*u<=D*v->u<=v:=fun h=>Int.le_of_mul_le_mul_left h g
  exact ⟨s1.imp (Or.imp l l) (Or.imp l l),s2.imp (Or.imp l l) (Or.imp l l)⟩
 ·have l:∀ {u v:Int},D*u<=D*v->v<=u:=fun {u v} h=>Int.le_of_mul_le_mul_left (a:=-D) (by rw [Int.neg_mul,Int.neg_mul]; exact Int.neg_le_neg h) (Int.neg_pos_of_neg g)
  constructor
  ·rcases s2 with (z | z) | (z | z)
   ·exact .inl (.inl (l z))
   ·exact .inr (.inl (l z))
   ·exact .inl (.inr (l z))
   ·exact .inr (.inr (l z))
  ·rcases s1 with (z | z) | (z | z)
   ·exact .inl (.inl (l z))
   ·exact .inr (.inl (l z))
   ·exact .inl (.inr (l z))
   ·exact .inr (.inr (l z))
theorem gap {A L t M:Int} (c1:¬ Btw t L) (c2:¬ Btw (-t) M) (c3:¬ Btw (t+M) L) (h1:min A (A+L)<=max (A+t) (A+t+M)) (h2:min (A+t) (A+t+M)<=max A (A+L)):False:=by
 rw [Std.min_le,Std.le_max,Std.le_max] at h1 h2
 unfold Btw at c1 c2 c3
 have k1:=fun a b=>c1 (.inl ⟨a,b⟩)
 have k2:=fun a b=>c1 (.inr ⟨a,b⟩)
 have k3:=fun a b=>c2 (.inl ⟨a,b⟩)
 have k4:=fun a b=>c2 (.inr ⟨a,b⟩)
 have k5:=fun a b=>c3 (.inl ⟨a,b⟩)
 have k6:=fun a b=>c3 (.inr ⟨a,b⟩)
 clear c1 c2 c3
 rcases Int.le_total 0 L with l | l <;> rcases Int.le_total 0 t with r | r <;> rcases Int.le_total 0 M with m | m <;> grind
theorem two_any {ax ay bx by_ cx cy dx dy L M u v p q e1 e2 f1 f2:Int} (T:Two ax ay bx by_ cx cy dx dy L M u v p q e1 e2 f1 f2) (hL:L≠0) (hM:M≠0):mA ax ay bx by_ cx cy dx dy e1 e2 f1 f2↔mB ax ay bx by_ cx cy dx dy e1 e2 f1 f2:=by
 have he2:=T.e2_eq
 have hf2:=T.f2_eq
 have z0:∀ x:Int,x=x+0*u/\x=x+0*v/\x=x+0*p/\x=x+0*q:=fun x=>by simp
 have B0:∀ x:Int,Btw 0 x:=fun x=>(Int.le_total 0 x).imp (fun q=>⟨Int.le_refl 0,q⟩) (fun q=>⟨q,Int.le_refl 0⟩)
 have BL:∀ x:Int,Btw x x:=fun x=>(Int.le_total 0 x).imp (fun q=>⟨q,Int.le_refl x⟩) (fun q=>⟨Int.le_refl x,q⟩)
 have dt:=dets T.hu T.hp
 constructor
 ·rintro (⟨a,b⟩ | ⟨a,rx,ry⟩ | ⟨a,rx,ry⟩ | ⟨a,rx,ry⟩ | ⟨a,rx,ry⟩)
  ·have hD:u*q - v*p=1\/u*q - v*p=-1\/u*q - v*p=2\/u*q - v*p=-2:=by
    rcases dt with ⟨z,_⟩ | z
    ·rw [z,Int.mul_zero,Int.add_zero] at he2
     rw [he2] at a
     exact a.elim (fun q=>absurd q.2 (Int.lt_asymm q.1)) (fun q=>absurd q.2 (Int.lt_asymm q.1))
    ·exact z
   have X1:(u*q - v*p)*ax+f1*u=(u*q - v*p)*cx - e1*p:=by rw [T.hf1,T.he1]; grind
   have Y1:(u*q - v*p)*ay+f1*v=(u*q - v*p)*cy - e1*q:=by rw [T.hf1,T.he1]; grind
   have k1:=(opp_f hf2).mp (opp_lt b)
   have k2:=(opp_e he2).mp (opp_lt a)
   exact ⟨⟨cross_coord hD T.hu.fst T.hp.fst T.hbx T.hdx X1 k1 k2,cross_coord hD T.hu.snd T.hp.snd T.hby T.hdy Y1 k1 k2⟩,opp_lt a,opp_lt b⟩
  ·rw [T.he1] at a
   obtain ⟨t,hx,hy⟩:=line_t T.hu a
   exact on_two T hx hy (t_btw T.hu T.hbx T.hby hx hy rx ry) (z0 cx).2.2.1 (z0 cy).2.2.2 (B0 M)
  ·rw [T.he2] at a
   obtain ⟨t,hx,hy⟩:=line_t T.hu a
   exact on_two T hx hy (t_btw T.hu T.hbx T.hby hx hy rx ry) T.hdx T.hdy (BL M)
  ·rw [T.hf1] at a
   obtain ⟨t,hx,hy⟩:=line_t T.hp a
   exact on_two T (z0 ax).1 (z0 ay).2.1 (B0 L) hx hy (t_btw T.hp T.hdx T.hdy hx hy rx ry)
  ·rw [T.hf2] at a
   obtain ⟨t,hx,hy⟩:=line_t T.hp a
   exact on_two T T.hbx T.hby (BL L) hx hy (t_btw T.hp T.hdx T.hdy hx hy rx ry)
 · rintro ⟨⟨rx, ry⟩, he, hf⟩
   by_cases hD:u*q - v*p=0
   · rw [hD, Int.mul_zero, Int.add_zero] at he2
     rw [hD,Int.mul_zero,Int.sub_zero] at hf2
     rw [he2] at he
     rw [hf2] at hf
     have e10:=opp_self he
     have f10:=opp_self hf
     obtain ⟨_,hpu,hqv⟩:_/\p=u/\q=v:=by
       rcases dt with z | z
       · exact z
       · rw [hD] at z
         exact absurd z (by decide)
     have e20:e2=0:=he2.trans e10
     have f20:f2=0:=hf2.trans f10
     have a1:=e10
     rw [T.he1] at a1
     obtain ⟨t,hx,hy⟩:=line_t T.hu a1
     have hdx:=T.hdx
     have hdy:=T.hdy
     have hbx:=T.hbx
     have hby:=T.hby
     have hu:=T.hu
     subst hpu hqv
     clear he hf he2 hf2 T z0 B0 BL dt hD a1
     unfold mA
     by_cases c1:Btw t L
     · exact .inr (.inl ⟨e10,within_of hu.fst hbx hx c1,within_of hu.snd hby hy c1⟩)
     · by_cases c2 : Btw (-t) M
       · refine .inr (.inr (.inr (.inl ⟨f10,within_of hu.fst hdx ?_ c2,within_of hu.snd hdy ?_ c2⟩)))
         · rw [hx,Int.neg_mul]
           exact (Int.add_neg_cancel_right _ _).symm
         · rw [hy,Int.neg_mul]
           exact (Int.add_neg_cancel_right _ _).symm
       · by_cases c3 : Btw (t + M) L
         · refine .inr (.inr (.inl ⟨e20,within_of hu.fst hbx ?_ c3,within_of hu.snd hby ?_ c3⟩))
           · rw [hdx,hx,Int.add_mul]
             exact Int.add_assoc _ _ _
           · rw [hdy,hy,Int.add_mul]
             exact Int.add_assoc _ _ _
         · exfalso
           rw [hdx,hx,hbx] at rx
           rw [hdy,hy,hby] at ry
           rcases hu with ⟨rfl,rfl⟩ | ⟨rfl,rfl⟩ | ⟨rfl,rfl⟩ | ⟨rfl,rfl⟩
           · rw [Int.mul_one,Int.mul_one,Int.mul_one] at rx
             exact gap c1 c2 c3 rx.1 rx.2
           · rw [Int.mul_one,Int.mul_one,Int.mul_one] at ry
             exact gap c1 c2 c3 ry.1 ry.2
           · rw [Int.mul_one,Int.mul_one,Int.mul_one] at rx
             exact gap c1 c2 c3 rx.1 rx.2
           · rw [Int.mul_one,Int.mul_one,Int.mul_one] at rx
             exact gap c1 c2 c3 rx.1 rx.2
   · have fin1:∀ t,f1=t*(u*q - v*p)->Btw t L:=fun t ht=>btw_div hD (ht ▸ (opp_f hf2).mp hf)
     have fin2:∀ r,e1=-(r*(u*q - v*p))->Btw r M:=fun r hr=>btw_div hD (by
       have k:=(opp_e he2).mp he
       rw [hr,Int.neg_neg] at k
       exact k)
     by_cases z1:e1=0
     · have a1:=z1
       rw [T.he1] at a1
       obtain ⟨t,hx,hy⟩:=line_t T.hu a1
       have b:=fin1 t (T.at_ hx hy (z0 cx).2.2.1 (z0 cy).2.2.2).2
       exact .inr (.inl ⟨z1,within_of T.hu.fst T.hbx hx b,within_of T.hu.snd T.hby hy b⟩)
     · by_cases z2 : e2 = 0
       · have a1:=z2
         rw [T.he2] at a1
         obtain ⟨t,hx,hy⟩:=line_t T.hu a1
         have b:=fin1 t (T.at_ hx hy T.hdx T.hdy).2
         exact .inr (.inr (.inl ⟨z2,within_of T.hu.fst T.hbx hx b,within_of T.hu.snd T.hby hy b⟩))
       · by_cases z3 : f1 = 0
         · have a1:=z3
           rw [T.hf1] at a1
           obtain ⟨t,hx,hy⟩:=line_t T.hp a1
           have b:=fin2 t (T.at_ (z0 ax).1 (z0 ay).2.1 hx hy).1
           exact .inr (.inr (.inr (.inl ⟨z3,within_of T.hp.fst T.hdx hx b,within_of T.hp.snd T.hdy hy b⟩)))
         · by_cases z4 : f2 = 0
           · have a1:=z4
             rw [T.hf2] at a1
             obtain ⟨t,hx,hy⟩:=line_t T.hp a1
             have b:=fin2 t (T.at_ T.hbx T.hby hx hy).1
             exact .inr (.inr (.inr (.inr ⟨z4,within_of T.hp.fst T.hdx hx b,within_of T.hp.snd T.hdy hy b⟩)))
           · exact .inl ⟨opp_ne he z1 z2,opp_ne hf z3 z4⟩
end Wm
namespace Wm
open Eh
theorem rng_iff (a b c d:Int):rngC a b c d↔min a b<=max c d/\min c d<=max a b:=by
 unfold rngC
 have s:∀ x y:Int,min x y<=max x y:=fun x y=>Int.le_trans (Int.min_le_left x y) (Int.le_max_left x y)
 rw [Int.max_le,Int.le_min,Int.le_min]
 exact ⟨fun h=>⟨h.1.2,h.2.1⟩,fun h=>⟨⟨s a b,h.1⟩,h.2,s c d⟩⟩
theorem btw_iff (a b c:Int):btwC a b c=true↔min a b<=c/\c<=max a b:=by
 unfold btwC
 rw [Bool.and_eq_true,decide_eq_true_iff,decide_eq_true_iff]
theorem two_of {a b c d:Corner} {u v L p q M:Int} (hu:Unit8 u v) (hbx:b.x=a.x+L*u) (hby:b.y=a.y+L*v) (hp:Unit8 p q) (hdx:d.x=c.x+M*p) (hdy:d.y=c.y+M*q) :
  Two a.x a.y b.x b.y c.x c.y d.x d.y L M u v p q (ell u v a c) (ell u v a d) (ell p q c a) (ell p q c b):=⟨hu,hp,hbx,hby,hdx,hdy,rfl,rfl,rfl,rfl⟩
theorem mC_iff {a b c d:Corner} {u v L p q M:Int} (hL:L≠0) (hbx:b.x=a.x+L*u) (hby:b.y=a.y+L*v) (hM:M≠0) (hdx:d.x=c.x+M*p) (hdy:d.y=c.y+M*q) :
  meetC a b c d=true↔mA a.x a.y b.x b.y c.x c.y d.x d.y (ell u v a c) (ell u v a d) (ell p q c a) (ell p q c b):=by
 unfold meetC onC mA
 simp only [left_ell hbx hby,left_ell hdx hdy,Bool.or_eq_true,Bool.and_eq_true,decide_eq_true_iff,beq_iff_eq,pr_scale_lt hL,pr_scale_lt hM,pr_lt,ell0 hL,ell0 hM,btw_iff]
theorem mP_iff {a b c d:Corner} {u v L p q M:Int} (hL:L≠0) (hbx:b.x=a.x+L*u) (hby:b.y=a.y+L*v) (hM:M≠0) (hdx:d.x=c.x+M*p) (hdy:d.y=c.y+M*q) :
  meetP a b c d↔mB a.x a.y b.x b.y c.x c.y d.x d.y (ell u v a c) (ell u v a d) (ell p q c a) (ell p q c b):=by
 unfold meetP mB
 rw [rng_iff,rng_iff,left_ell hbx hby,left_ell hbx hby,left_ell hdx hdy,left_ell hdx hdy,pr_scale_le hL,pr_scale_le hM,pr_le,pr_le]
 constructor
 ·rintro ⟨a,b,c,d⟩
  exact ⟨⟨a,b⟩,c,d⟩
 ·rintro ⟨⟨a,b⟩,c,d⟩
  exact ⟨a,b,c,d⟩
theorem meetC_iff {a b c d:Corner} (hab:dirC a b=true) (hcd:dirC c d=true):meetC a b c d=true↔meetP a b c d:=by
 obtain ⟨u,v,L,hu,hL,hbx,hby⟩:=dir_unit hab
 obtain ⟨p,q,M,hp,hM,hdx,hdy⟩:=dir_unit hcd
 rw [mC_iff hL hbx hby hM hdx hdy,mP_iff hL hbx hby hM hdx hdy]
 exact two_any (two_of hu hbx hby hp hdx hdy) hL hM
theorem meetP_symm {a b c d:Corner}:meetP a b c d↔meetP c d a b:=by
 unfold meetP rngC
 rw [Int.max_comm (min a.x b.x),Int.min_comm (max a.x b.x),Int.max_comm (min a.y b.y),Int.min_comm (max a.y b.y)]
 constructor
 ·rintro ⟨a,b,c,d⟩
  exact ⟨a,b,d,c⟩
 ·rintro ⟨a,b,c,d⟩
  exact ⟨a,b,d,c⟩
end Wm
namespace Wm
open Eh
def sm (f:Nat->Int):Nat->Int
 | 0=>0
 | n+1=>sm f n+f n
theorem sm_congr {f g:Nat->Int}:∀ {n:Nat},(∀ j,j < n->f j=g j)->sm f n=sm g n
 | 0,_=>rfl
 | n+1,h=>by
  show sm f n+f n=sm g n+g n
  rw [sm_congr fun j hj=>h j (by omega),h n (by omega)]
theorem sm_zero:∀ n:Nat,sm (fun _=>0) n=0
 | 0=>rfl
 | n+1=>by
  show sm (fun _=>0) n+0=0
  rw [sm_zero n]
  rfl
theorem sm_add (f g:Nat->Int):∀ n:Nat,sm (fun j=>f j+g j) n=sm f n+sm g n
 | 0=>rfl
 | n+1=>by
  show sm (fun j=>f j+g j) n+(f n+g n)=sm f n+f n+(sm g n+g n)
  rw [sm_add f g n]
  omega
theorem sm_sub (f g:Nat->Int):∀ n:Nat,sm (fun j=>f j - g j) n=sm f n - sm g n
 | 0=>rfl
 | n+1=>by
  show sm (fun j=>f j - g j) n+(f n - g n)=sm f n+f n - (sm g n+g n)
  rw [sm_sub f g n]
  omega
theorem sm_one {f g:Nat->Int} {o:Nat}:∀ {n:Nat},o < n->(∀ j,j < n->j≠o->f j=g j)->sm f n=sm g n+(f o - g o)
 | 0,h,_=>by omega
 | n+1,ho,h=>by
  show sm f n+f n=sm g n+g n+(f o - g o)
  by_cases c:o=n
  ·subst c
   rw [sm_congr (f:=f) (g:=g) fun j hj=>h j (by omega) (by omega)]
   omega
  ·rw [sm_one (f:=f) (g:=g) (o:=o) (n:=n) (by omega) fun j hj hne=>h j (by omega) hne,h n (by omega) (by omega)]
   omega
theorem sm_swap (f:Nat->Nat->Int) (m:Nat):∀ n:Nat,sm (fun j=>sm (f j) m) n=sm (fun k=>sm (fun j=>f j k) n) m
 | 0=>(sm_zero m).symm
 | n+1=>by
  show sm (fun j=>sm (f j) m) n+sm (f n) m=sm (fun k=>sm (fun j=>f j k) n+f n k) m
  rw [sm_swap f m n,sm_add]
theorem sm_tele (G:Nat->Int):∀ n:Nat,sm (fun j=>G (j+1) - G j) n=G n - G 0
 | 0=>by
  show (0:Int)=G 0 - G 0
  omega
 | n+1=>by
  show sm (fun j=>G (j+1) - G j) n+(G (n+1) - G n)=_
  rw [sm_tele G n]
  omega
theorem sm_nonneg {f:Nat->Int}:∀ {n:Nat},(∀ j,j < n->0<=f j)->0<=sm f n
 | 0,_=>Int.le_refl _
 | n+1,h=>by
  have a:=sm_nonneg (f:=f) (n:=n) fun j hj=>h j (by omega)
  have b:=h n (by omega)
  show 0<=sm f n+f n
  omega
theorem sm_pos {f:Nat->Int} {o:Nat}:∀ {n:Nat},(∀ j,j < n->0<=f j)->o < n->0 < f o->0 < sm f n
 | 0,_,h,_=>by omega
 | n+1,h,ho,hp=>by
  show 0 < sm f n+f n
  have b:=h n (by omega)
  by_cases c:o=n
  ·subst c
   have a:=sm_nonneg (f:=f) (n:=o) fun j hj=>h j (by omega)
   omega
  ·have a:=sm_pos (f:=f) (o:=o) (n:=n) (fun j hj=>h j (by omega)) (by omega) hp
   omega
theorem sm_neg (f:Nat->Int):∀ n:Nat,sm (fun j=>- f j) n=- sm f n
 | 0=>rfl
 | n+1=>by
  show sm (fun j=>- f j) n + - f n=- (sm f n+f n)
  rw [sm_neg f n]
  omega
def west (s m:Nat->Int) (n:Nat) (x:Int):Int:=sm (fun j=>if m j < x then s j else 0) n
theorem west_step {s m:Nat->Int} {n:Nat} {j:Nat} (hj:j < n) (ap:∀ i,i < n->i≠j->s i≠0->m i≠m j):west s m n (m j+1)=west s m n (m j)+s j:=by
 unfold west
 rw [sm_one (g:=fun i=>if m i < m j then s i else 0) hj]
 ·rw [if_pos (by omega),if_neg (by omega)]
  omega
 ·intro i hi hne
  by_cases z:s i=0
  ·rw [z]
   simp
  ·have:=ap i hi hne z
   by_cases c:m i < m j
   ·rw [if_pos c,if_pos (by omega)]
   ·rw [if_neg c,if_neg (by omega)]
theorem west_still {s m:Nat->Int} {n:Nat} {x:Int} (h:∀ i,i < n->s i≠0->m i≠x):west s m n (x+1)=west s m n x:=by
 unfold west
 refine sm_congr fun i hi=>?_
 by_cases z:s i=0
 ·rw [z]
  simp
 ·have:=h i hi z
  by_cases c:m i < x
  ·rw [if_pos c,if_pos (by omega)]
  ·rw [if_neg c,if_neg (by omega)]
structure Lev (s m:Nat->Int) (n:Nat) (c:Int):Prop where
 sg:∀ j,j < n->s j=1\/s j=0\/s j=-1
 pos:∀ j,j < n->s j≠0->0<=m j
 apart:∀ i j,i < n->j < n->i≠j->s i≠0->s j≠0->m i≠m j
 up:∀ j,j < n->s j=1->west s m n (m j)=c
 down:∀ j,j < n->s j=-1->west s m n (m j)=c+1
theorem Lev.c01 {s m:Nat->Int} {n:Nat} {c:Int} (h:Lev s m n c):∀ (b:Nat) (j:Nat),j < n->s j≠0->m j<=b->c=0\/c=-1:=by
 intro b
 induction b using Nat.strongRecOn with
 | ind b ih =>
  intro j hj hs hm
  by_cases q:∃ i,i < n/\s i≠0/\m i < m j
  ·obtain ⟨i,hi,hsi,hmi⟩:=q
   have p:=h.pos i hi hsi
   exact ih (m i).toNat (by omega) i hi hsi (by omega)
  ·have z:west s m n (m j)=0:=by
    unfold west
    rw [sm_congr (g:=fun _=>0),sm_zero]
    intro i hi
    by_cases zi:s i=0
    ·rw [zi]; simp
    ·rw [if_neg fun l=>q ⟨i,hi,zi,l⟩]
   rcases h.sg j hj with e | e | e
   ·have:=h.up j hj e
    omega
   ·exact absurd e hs
   ·have:=h.down j hj e
    omega
theorem Lev.west {s m:Nat->Int} {n:Nat} {c:Int} (h:Lev s m n c) (hc:c=0\/c=-1):∀ x:Nat,west s m n x=c\/west s m n x=c+1
 | 0=>by
  have z:Wm.west s m n ((0:Nat):Int)=0:=by
   unfold Wm.west
   rw [sm_congr (g:=fun _=>0),sm_zero]
   intro i hi
   by_cases zi:s i=0
   ·rw [zi]; simp
   ·have:=h.pos i hi zi
    rw [if_neg (by omega)]
  omega
 | x+1=>by
  have ih:=h.west hc x
  have e:((x+1:Nat):Int)=(x:Int)+1:=by omega
  rw [e]
  by_cases q:∃ i,i < n/\s i≠0/\m i=(x:Int)
  ·obtain ⟨i,hi,hs,hm⟩:=q
   have st:=west_step (s:=s) (m:=m) hi fun i' hi' hne hs'=>h.apart i' i hi' hi hne hs' hs
   rw [hm] at st
   rcases h.sg i hi with e1 | e1 | e1
   ·have:=h.up i hi e1
    rw [hm] at this
    omega
   ·exact absurd e1 hs
   ·have:=h.down i hi e1
    rw [hm] at this
    omega
  ·rw [west_still fun i hi hs hm=>q ⟨i,hi,hs,hm⟩]
   exact ih
theorem sum_west (s m:Nat->Int) (M:Nat):∀ n:Nat,(∀ j,j < n->s j≠0->0<=m j/\m j<=M)->sm (fun j=>s j*m j) n=(M:Int)*sm s n - sm (fun t=>west s m n ((t:Int)+1)) M
 | 0,_=>by
  have:sm (fun t=>west s m 0 ((t:Int)+1)) M=0:=sm_zero M
  rw [this]
  simp [sm]
 | n + 1, h => by
   have e:sm (fun t=>west s m (n+1) ((t:Int)+1)) M=sm (fun t=>west s m n ((t:Int)+1)) M+sm (fun t=>if m n < (t:Int)+1 then s n else 0) M:=by
     rw [← sm_add]
     rfl
   rw [e]
   show sm (fun j=>s j*m j) n+s n*m n=(M:Int)*(sm s n+s n) - _
   rw [sum_west s m M n fun j hj hs=>h j (by omega) hs,Int.mul_add]
   have k:sm (fun t=>if m n < (t:Int)+1 then s n else 0) M=(M:Int)*s n - s n*m n:=by
     by_cases z:s n=0
     · rw [z]
       simp
       exact sm_zero M
     · have ⟨p1, p2⟩ := h n (by omega) z
       have g:∀ M':Nat,(M':Int)<=M->sm (fun t=>if m n < (t:Int)+1 then s n else 0) M'=if (M':Int)<=m n then 0 else ((M':Int) - m n)*s n:=by
         intro M'
         induction M' with
         | zero=>intro _; rw [if_pos (by omega)]; rfl
         | succ M' ih =>
           intro hM
           show sm (fun t=>if m n < (t:Int)+1 then s n else 0) M'+(if m n < (M':Int)+1 then s n else 0)=_
           rw [ih (by omega)]
           by_cases c:m n < (M':Int)+1
           · rw [if_pos c,if_neg (by omega:¬ ((M'+1:Nat):Int)<=m n)]
             by_cases d:(M':Int)<=m n
             · rw [if_pos d]
               have:((M'+1:Nat):Int) - m n=1:=by omega
               rw [this]
               omega
             · rw [if_neg d]
               have:((M'+1:Nat):Int) - m n=((M':Int) - m n)+1:=by omega
               rw [this,Int.add_mul]
               omega
           · rw [if_neg c,if_pos (by omega),if_pos (by omega)]
             rfl
       rw [g M (Int.le_refl _)]
       by_cases c:(M:Int)<=m n
       · have:(M:Int)=m n:=by omega
         rw [if_pos c,this,Int.mul_comm]
         omega
       · rw [if_neg c,Int.sub_mul,Int.mul_comm (m n)]
   rw [k]
   omega
theorem Lev.sum {s m:Nat->Int} {n:Nat} {c:Int} {M:Nat} (h:Lev s m n c) (hc:c=0\/c=-1) (hM:∀ j,j < n->s j≠0->m j < M) (tot:sm s n=0) :
  (c=0->sm (fun j=>s j*m j) n<=0/\((∃ j,j < n/\s j=1)->sm (fun j=>s j*m j) n < 0))/\(c=-1->0<=sm (fun j=>s j*m j) n/\((∃ j,j < n/\s j=-1)->0 < sm (fun j=>s j*m j) n)):=by
 rw [sum_west s m M n fun j hj hs=>⟨h.pos j hj hs,Int.le_of_lt (hM j hj hs)⟩,tot,Int.mul_zero]
 have w:=h.west hc
 have cast:∀ t:Nat,((t:Int)+1)=((t+1:Nat):Int):=fun t=>by omega
 constructor
 ·intro e
  subst e
  have a:∀ t,t < M->0<=Wm.west s m n ((t:Int)+1):=fun t _=>by
   rw [cast]
   have:=w (t+1)
   omega
  have b:=sm_nonneg (f:=fun t=>Wm.west s m n ((t:Int)+1)) (n:=M) a
  refine ⟨by omega,?_⟩
  rintro ⟨j,hj,e⟩
  have p:=h.pos j hj (by omega)
  have st:=west_step (s:=s) (m:=m) hj fun i' hi' hne hs'=>h.apart i' j hi' hj hne hs' (by omega)
  have u:=h.up j hj e
  have hm:=hM j hj (by omega)
  have d:=sm_pos (f:=fun t=>Wm.west s m n ((t:Int)+1)) (n:=M) (o:=(m j).toNat) a (by omega) (by
   have:(((m j).toNat:Nat):Int)=m j:=by omega
   show 0 < Wm.west s m n ((((m j).toNat:Nat):Int)+1)
   rw [this,st,u,e]
   decide)
  omega
 ·intro e
  subst e
  have a:∀ t,t < M->0<=- Wm.west s m n ((t:Int)+1):=fun t _=>by
   rw [cast]
   have:=w (t+1)
   omega
  have b:=sm_nonneg (f:=fun t=>- Wm.west s m n ((t:Int)+1)) (n:=M) a
  rw [sm_neg] at b
  refine ⟨by omega,?_⟩
  rintro ⟨j,hj,e⟩
  have p:=h.pos j hj (by omega)
  have st:=west_step (s:=s) (m:=m) hj fun i' hi' hne hs'=>h.apart i' j hi' hj hne hs' (by omega)
  have u:=h.down j hj e
  have hm:=hM j hj (by omega)
  have d:=sm_pos (f:=fun t=>- Wm.west s m n ((t:Int)+1)) (n:=M) (o:=(m j).toNat) a (by omega) (by
   have:(((m j).toNat:Nat):Int)=m j:=by omega
   show 0 < - Wm.west s m n ((((m j).toNat:Nat):Int)+1)
   rw [this,st,u,e]
   decide)
  rw [sm_neg] at d
  omega
end Wm
namespace Wm
open Eh
structure Edge (a b:Corner) (u v L:Int):Prop where
 un:Unit8 u v
 ne:L≠0
 hx:b.x=a.x+L*u
 hy:b.y=a.y+L*v
def On (a b:Corner) (X Y:Int):Prop:=∃ u v L t,Edge a b u v L/\X=a.x+t*u/\Y=a.y+t*v/\Btw t L
theorem on_on {a b c d:Corner} {X Y:Int} (h:On a b X Y) (k:On c d X Y):meetC a b c d=true:=by
 obtain ⟨u,v,L,t,E,h1,h2,h3⟩:=h
 obtain ⟨p,q,M,r,G,h4,h5,h6⟩:=k
 rw [mC_iff E.ne E.hx E.hy G.ne G.hx G.hy]
 have T:=two_of E.un E.hx E.hy G.un G.hx G.hy
 exact (two_any T E.ne G.ne).mpr (on_two T h1 h2 h3 h4 h5 h6)
theorem on_bend {a b d:Corner} {X Y:Int} (nb:alongC a b b d=false) (h:On a b X Y) (k:On b d X Y):X=b.x/\Y=b.y:=by
 obtain ⟨u,v,L,t,E,h1,h2,_⟩:=h
 obtain ⟨p,q,M,r,G,h4,h5,_⟩:=k
 have nb:(b.x - a.x)*(d.y - b.y) - (b.y - a.y)*(d.x - b.x)≠0:=by
  unfold alongC at nb
  exact beq_eq_false_iff_ne.mp nb
 have n2:u*q - v*p≠0:=by
  intro z
  apply nb
  have e:∀ {z w y:Int},z=w+y->z - w=y:=fun h=>by rw [h,Int.add_comm,Int.add_sub_cancel]
  rw [e E.hx,e E.hy,e G.hx,e G.hy]
  have:L*u*(M*q) - L*v*(M*p)=L*M*(u*q - v*p):=by
   rw [Int.mul_sub]
   simp only [Int.mul_assoc,Int.mul_left_comm]
  rw [this,z,Int.mul_zero]
 have x1:(t - L)*u=r*p:=by
  have:=E.hx
  rw [Int.sub_mul]
  omega
 have y1:(t - L)*v=r*q:=by
  have:=E.hy
  rw [Int.sub_mul]
  omega
 have z:(t - L)*(u*q - v*p)=0:=by rw [Int.mul_sub,← Int.mul_assoc,← Int.mul_assoc,x1,y1,Int.mul_assoc,Int.mul_assoc,Int.mul_comm p q,Int.sub_self]
 have z0:t - L=0:=(Int.mul_eq_zero.mp z).resolve_right n2
 rw [z0,Int.zero_mul] at x1 y1
 exact ⟨by rw [h4,← x1,Int.add_zero],by rw [h5,← y1,Int.add_zero]⟩
def slo (a b:Corner):Int:=if b.x=a.x then 0 else if b.x - a.x=b.y - a.y then 1 else -1
def xe (a b:Corner) (Y:Int):Int:=a.x+slo a b*(Y - a.y)
def sg (a b:Corner) (k:Int):Int:=if a.y<=k/\k < b.y then 1 else if b.y<=k/\k < a.y then -1 else 0
def mid (a b:Corner) (k:Int):Int:=2*xe a b k+slo a b
theorem xe_succ (a b:Corner) (Y:Int):xe a b (Y+1)=xe a b Y+slo a b:=by
 unfold xe
 have:Y+1 - a.y=(Y - a.y)+1:=by omega
 rw [this,Int.mul_add]
 omega
theorem slo_cases (a b:Corner):slo a b=0\/slo a b=1\/slo a b=-1:=by
 unfold slo
 split
 ·exact .inl rfl
 ·split
  ·exact .inr (.inl rfl)
  ·exact .inr (.inr rfl)
theorem forms {a b:Corner} (h:dirC a b=true):(b.y=a.y/\b.x≠a.x/\Edge a b 1 0 (b.x - a.x))\/(b.y≠a.y/\slo a b=0/\b.x=a.x/\Edge a b 0 1 (b.y - a.y))\/(b.y≠a.y/\slo a b=1/\b.x - a.x=b.y - a.y/\Edge a b 1 1 (b.x - a.x))\/(b.y≠a.y/\slo a b=-1/\b.x - a.x=-(b.y - a.y)/\Edge a b 1 (-1) (b.x - a.x)):=by
 obtain ⟨u,v,L,hu,hL,hx,hy⟩:=dir_unit h
 unfold slo
 rcases hu with ⟨rfl,rfl⟩ | ⟨rfl,rfl⟩ | ⟨rfl,rfl⟩ | ⟨rfl,rfl⟩
 ·exact .inl ⟨by omega,by omega,.inl ⟨rfl,rfl⟩,by omega,by omega,by omega⟩
 ·exact .inr (.inl ⟨by omega,by rw [if_pos (by omega)],by omega,.inr (.inl ⟨rfl,rfl⟩),by omega,by omega,by omega⟩)
 ·exact .inr (.inr (.inl ⟨by omega,by rw [if_neg (by omega),if_pos (by omega)],by omega,.inr (.inr (.inl ⟨rfl,rfl⟩)),by omega,by omega,by omega⟩))
 ·exact .inr (.inr (.inr ⟨by omega,by rw [if_neg (by omega),if_neg (by omega)],by omega,.inr (.inr (.inr ⟨rfl,rfl⟩)),by omega,by omega,by omega⟩))
theorem sg_ne {a b:Corner} {k:Int} (h:sg a b k≠0):(a.y<=k/\k < b.y/\sg a b k=1)\/(b.y<=k/\k < a.y/\sg a b k=-1):=by
 unfold sg at *
 by_cases c:a.y<=k/\k < b.y
 ·rw [if_pos c]
  exact .inl ⟨c.1,c.2,rfl⟩
 ·rw [if_neg c] at h ⊢
  by_cases d:b.y<=k/\k < a.y
  ·rw [if_pos d]
   exact .inr ⟨d.1,d.2,rfl⟩
  ·rw [if_neg d] at h
   exact absurd rfl h
theorem xe_on {a b:Corner} (h:dirC a b=true) {Y:Int} (hne:b.y≠a.y) (hY:(a.y<=Y/\Y<=b.y)\/(b.y<=Y/\Y<=a.y)):On a b (xe a b Y) Y:=by
 unfold xe
 rcases forms h with ⟨e,_⟩ | ⟨_,s,e,E⟩ | ⟨_,s,e,E⟩ | ⟨_,s,e,E⟩
 ·exact absurd e hne
 ·rw [s]
  exact ⟨0,1,_,Y - a.y,E,by omega,by omega,by unfold Btw; omega⟩
 ·rw [s]
  exact ⟨1,1,_,Y - a.y,E,by omega,by omega,by unfold Btw; omega⟩
 ·rw [s]
  exact ⟨1,-1,_,-(Y - a.y),E,by omega,by omega,by unfold Btw; omega⟩
theorem flat_on {a b:Corner} (h:dirC a b=true) {X:Int} (he:b.y=a.y) (hX:(a.x<=X/\X<=b.x)\/(b.x<=X/\X<=a.x)):On a b X a.y:=by
 rcases forms h with ⟨e,_,E⟩ | ⟨e,_⟩ | ⟨e,_⟩ | ⟨e,_⟩
 ·exact ⟨1,0,_,X - a.x,E,by omega,by omega,by unfold Btw; omega⟩
 ·exact absurd he e
 ·exact absurd he e
 ·exact absurd he e
theorem end_on {a b:Corner} (h:dirC a b=true):On a b b.x b.y:=by
 obtain ⟨u,v,L,hu,hL,hx,hy⟩:=dir_unit h
 exact ⟨u,v,L,L,⟨hu,hL,hx,hy⟩,hx,hy,by unfold Btw; omega⟩
theorem xe_end {a b:Corner} (h:dirC a b=true) (hne:b.y≠a.y):xe a b b.y=b.x:=by
 unfold xe
 rcases forms h with ⟨e,_⟩ | ⟨_,s,e,E⟩ | ⟨_,s,e,E⟩ | ⟨_,s,e,E⟩
 ·exact absurd e hne
 all_goals rw [s]; omega
theorem xe_start (a b:Corner):xe a b a.y=a.x:=by
 unfold xe
 rw [Int.sub_self,Int.mul_zero]
 omega
theorem mid_on {a b:Corner} (h:dirC a b=true) {k:Int} (hs:sg a b k≠0):∃ u v L t,Edge a b u v L/\mid a b k=2*a.x+t*u/\2*k+1=2*a.y+t*v/\Btw t (2*L):=by
 have g:=sg_ne hs
 unfold mid xe Btw
 rcases forms h with ⟨e,_⟩ | ⟨_,s,e,E⟩ | ⟨_,s,e,E⟩ | ⟨_,s,e,E⟩
 ·omega
 ·rw [s]
  exact ⟨0,1,_,2*k+1 - 2*a.y,E,by omega,by omega,by omega⟩
 ·rw [s]
  exact ⟨1,1,_,2*k+1 - 2*a.y,E,by omega,by omega,by omega⟩
 ·rw [s]
  exact ⟨1,-1,_,-(2*k+1 - 2*a.y),E,by omega,by omega,by omega⟩
theorem Two.double {ax ay bx by_ cx cy dx dy L M u v p q e1 e2 f1 f2:Int} (T:Two ax ay bx by_ cx cy dx dy L M u v p q e1 e2 f1 f2):Two (2*ax) (2*ay) (2*bx) (2*by_) (2*cx) (2*cy) (2*dx) (2*dy) (2*L) (2*M) u v p q (2*e1) (2*e2) (2*f1) (2*f2):=by
 obtain ⟨hu,hp,hbx,hby,hdx,hdy,h1,h2,h3,h4⟩:=T
 refine ⟨hu,hp,?_,?_,?_,?_,?_,?_,?_,?_⟩
 ·rw [hbx]; grind
 ·rw [hby]; grind
 ·rw [hdx]; grind
 ·rw [hdy]; grind
 ·rw [h1]; grind
 ·rw [h2]; grind
 ·rw [h3]; grind
 ·rw [h4]; grind
theorem mB_half {ax ay bx by_ cx cy dx dy e1 e2 f1 f2:Int} (h:mB (2*ax) (2*ay) (2*bx) (2*by_) (2*cx) (2*cy) (2*dx) (2*dy) (2*e1) (2*e2) (2*f1) (2*f2)):mB ax ay bx by_ cx cy dx dy e1 e2 f1 f2:=by
 have l:∀ {x y:Int},2*x<=2*y->x<=y:=fun h=>Int.le_of_mul_le_mul_left h (by decide)
 have s:∀ {x y z w:Int},min (2*x) (2*y)<=max (2*z) (2*w)->min x y<=max z w:=fun h=>by
  rw [Std.min_le,Std.le_max,Std.le_max] at h ⊢
  exact h.imp (Or.imp l l) (Or.imp l l)
 have p:∀ {x:Int},2*x<=0->x<=0:=fun {x} h=>l (y:=0) h
 have q:∀ {x:Int},0<=2*x->0<=x:=fun {x} h=>l (x:=0) h
 obtain ⟨⟨⟨a,b⟩,c,d⟩,e,f⟩:=h
 exact ⟨⟨⟨s a,s b⟩,s c,s d⟩,e.imp (And.imp p q) (And.imp q p),f.imp (And.imp p q) (And.imp q p)⟩
theorem half_meet {a b c d:Corner} (hab:dirC a b=true) (hcd:dirC c d=true) {k:Int} (h1:sg a b k≠0) (h2:sg c d k≠0) (hm:mid a b k=mid c d k):meetC a b c d=true:=by
 obtain ⟨u,v,L,t,E,x1,y1,t1⟩:=mid_on hab h1
 obtain ⟨p,q,M,r,G,x2,y2,t2⟩:=mid_on hcd h2
 rw [mC_iff E.ne E.hx E.hy G.ne G.hx G.hy]
 have T:=two_of E.un E.hx E.hy G.un G.hx G.hy
 exact (two_any T E.ne G.ne).mpr (mB_half (on_two T.double x1 y1 t1 (hm ▸ x2) y2 t2))
theorem half_bend {a b d:Corner} (hab:dirC a b=true) (hbd:dirC b d=true) (nb:alongC a b b d=false) {k:Int} (h1:sg a b k≠0) (h2:sg b d k≠0):mid a b k≠mid b d k:=by
 have g1:=sg_ne h1
 have g2:=sg_ne h2
 intro hm
 have nb:(b.x - a.x)*(d.y - b.y) - (b.y - a.y)*(d.x - b.x)≠0:=by
  unfold alongC at nb
  exact beq_eq_false_iff_ne.mp nb
 unfold mid xe at hm
 rcases forms hab with ⟨e,_⟩ | ⟨_,s,e,E⟩ | ⟨_,s,e,E⟩ | ⟨_,s,e,E⟩
 ·omega
 all_goals
  rcases forms hbd with ⟨e',_⟩ | ⟨_,s',e',G⟩ | ⟨_,s',e',G⟩ | ⟨_,s',e',G⟩
  ·omega
  all_goals
   rw [s,s'] at hm
   first
   | omega
   | (apply nb
      have t1:b.x - a.x=0:=by omega
      have t2:d.x - b.x=0:=by omega
      rw [t1,t2,Int.zero_mul,Int.mul_zero]
      rfl)
   | (apply nb
      rw [e,e',Int.mul_comm (b.y - a.y)]
      omega)
   | (apply nb
      rw [e,e',Int.neg_mul,Int.mul_neg]
      omega)
end Wm
namespace Wm
open Eh
structure Poly (P:Nat->Corner) (n:Nat):Prop where
 n3:3<=n
 per:∀ i,P (i+n)=P i
 dir:∀ i,dirC (P i) (P (i+1))=true
 bend:∀ i,alongC (P i) (P (i+1)) (P (i+1)) (P (i+2))=false
 apart:∀ i j,i < n->j < n->neighbours n i j=false->meetC (P i) (P (i+1)) (P j) (P (j+1))=false
section
variable {P:Nat->Corner} {n:Nat}
theorem Poly.mod (h:Poly P n):∀ i,P (i % n)=P i:=by
 intro i
 induction i using Nat.strongRecOn with
 | ind i ih =>
  by_cases c:i < n
  ·rw [Nat.mod_eq_of_lt c]
  ·have e:i=(i - n)+n:=by omega
   have n3:=h.n3
   rw [Nat.mod_eq_sub_mod (by omega),ih (i - n) (by omega)]
   conv=>rhs; rw [e]
   exact (h.per _).symm
theorem Poly.mod1 (h:Poly P n) (i:Nat):P (i % n+1)=P (i+1):=by
 rw [← h.mod (i % n+1),← h.mod (i+1),Nat.mod_add_mod]
theorem Poly.two_lines (h:Poly P n) {i j:Nat} (hi:i < n) (hj:j < n) (hne:i≠j) {X Y:Int} (o1:On (P i) (P (i+1)) X Y) (o2:On (P j) (P (j+1)) X Y) :
  ((i+1) % n=j/\X=(P (i+1)).x/\Y=(P (i+1)).y)\/((j+1) % n=i/\X=(P (j+1)).x/\Y=(P (j+1)).y):=by
 by_cases c1:(i+1) % n=j
 ·refine .inl ⟨c1,?_⟩
  have e1:P j=P (i+1):=by rw [← c1]; exact h.mod _
  have e2:P (j+1)=P (i+2):=by rw [← c1]; exact h.mod1 _
  rw [e1,e2] at o2
  exact on_bend (h.bend i) o1 o2
 · by_cases c2 : (j + 1) % n = i
   · refine .inr ⟨c2,?_⟩
     have e1:P i=P (j+1):=by rw [← c2]; exact h.mod _
     have e2:P (i+1)=P (j+2):=by rw [← c2]; exact h.mod1 _
     rw [e1,e2] at o1
     exact on_bend (h.bend j) o2 o1
   · have nb:neighbours n i j=false:=by
       unfold neighbours
       simp [hne,c1,c2]
     have:=h.apart i j hi hj nb
     rw [on_on o1 o2] at this
     cases this
theorem Poly.halves (h:Poly P n) {i j:Nat} (hi:i < n) (hj:j < n) (hne:i≠j) {k:Int} (h1:sg (P i) (P (i+1)) k≠0) (h2:sg (P j) (P (j+1)) k≠0):mid (P i) (P (i+1)) k≠mid (P j) (P (j+1)) k:=by
 by_cases c1:(i+1) % n=j
 ·have e1:P j=P (i+1):=by rw [← c1]; exact h.mod _
  have e2:P (j+1)=P (i+2):=by rw [← c1]; exact h.mod1 _
  rw [e1,e2] at h2 ⊢
  exact half_bend (h.dir i) (h.dir (i+1)) (h.bend i) h1 h2
 · by_cases c2 : (j + 1) % n = i
   · have e1:P i=P (j+1):=by rw [← c2]; exact h.mod _
     have e2:P (i+1)=P (j+2):=by rw [← c2]; exact h.mod1 _
     rw [e1,e2] at h1 ⊢
     exact (half_bend (h.dir j) (h.dir (j+1)) (h.bend j) h2 h1).symm
   · have nb:neighbours n i j=false:=by
       unfold neighbours
       simp [hne,c1,c2]
     intro hm
     have:=h.apart i j hi hj nb
     rw [half_meet (h.dir i) (h.dir j) h1 h2 hm] at this
     cases this
def belowW (P:Nat->Corner) (n:Nat) (Y k T:Int):Int:=sm (fun j=>if xe (P j) (P (j+1)) Y < T then sg (P j) (P (j+1)) k else 0) n
theorem sg_tele (a b:Corner) (k:Int):sg a b k=(if k < b.y then 1 else 0) - (if k < a.y then 1 else 0):=by
 unfold sg
 rcases Int.lt_or_le k b.y with p | p <;> rcases Int.lt_or_le k a.y with q | q
 ·rw [if_pos p,if_pos q,if_neg fun z=>Int.not_lt.mpr z.1 q,if_neg fun z=>Int.not_lt.mpr z.1 p]
  rfl
 ·rw [if_pos p,if_neg (Int.not_lt.mpr q),if_pos ⟨q,p⟩]
  rfl
 ·rw [if_neg (Int.not_lt.mpr p),if_pos q,if_neg fun z=>Int.not_lt.mpr p z.2,if_pos ⟨p,q⟩]
  rfl
 ·rw [if_neg (Int.not_lt.mpr p),if_neg (Int.not_lt.mpr q),if_neg fun z=>Int.not_lt.mpr p z.2,if_neg fun z=>Int.not_lt.mpr q z.2]
  rfl
theorem up_step (Y z:Int):(if Y - 1 < z then (1:Int) else 0) - (if Y < z then 1 else 0)=if z=Y then 1 else 0:=by
 rcases Int.lt_trichotomy z Y with l | l | l
 ·rw [if_neg (Int.not_lt.mpr (Int.le_sub_one_of_lt l)),if_neg (Int.lt_asymm l),if_neg (Int.ne_of_lt l)]
  rfl
 ·rw [l,if_pos (Int.sub_lt_self Y (by decide)),if_neg (Int.lt_irrefl Y),if_pos rfl]
  rfl
 ·rw [if_pos (Int.lt_trans (Int.sub_lt_self Y (by decide)) l),if_pos l,if_neg fun e=>Int.lt_irrefl Y (by rw [e] at l; exact l)]
  rfl
theorem sg_step (a b:Corner) (Y:Int):sg a b (Y - 1) - sg a b Y=(if b.y=Y then 1 else 0) - (if a.y=Y then 1 else 0):=by
 have e:∀ p q r s:Int,p - q - (r - s)=(p - r) - (q - s):=fun p q r s=>by
  rw [Int.sub_sub,Int.sub_sub,← Int.add_sub_assoc,← Int.add_sub_assoc,Int.add_comm q r]
 rw [sg_tele,sg_tele,e,up_step,up_step]
theorem edge_level {a b:Corner} (h:dirC a b=true) {Y T:Int} (fl:b.y=a.y->a.y=Y->¬ ((a.x < T/\T<=b.x)\/(b.x < T/\T<=a.x))) :
  (if xe a b Y < T then sg a b (Y - 1) else 0) - (if xe a b Y < T then sg a b Y else 0)=(if b.y=Y/\b.x < T then 1 else 0) - (if a.y=Y/\a.x < T then 1 else 0):=by
 have ls:(if xe a b Y < T then sg a b (Y - 1) else 0) - (if xe a b Y < T then sg a b Y else 0)=if xe a b Y < T then (if b.y=Y then (1:Int) else 0) - (if a.y=Y then 1 else 0) else 0:=by
  by_cases c:xe a b Y < T
  ·rw [if_pos c,if_pos c,if_pos c,sg_step]
  ·rw [if_neg c,if_neg c,if_neg c]
   rfl
 rw [ls]
 by_cases e:b.y=a.y
 ·have z:(if xe a b Y < T then (if b.y=Y then (1:Int) else 0) - (if a.y=Y then 1 else 0) else 0)=0:=by
   rw [e,Int.sub_self,ite_self]
  have k:(b.y=Y/\b.x < T)↔(a.y=Y/\a.x < T):=by
   rw [e]
   refine and_congr_right fun q=>?_
   have f:=fl e q
   exact ⟨fun l=>Int.not_le.mp fun m=>f (.inr ⟨l,m⟩),fun l=>Int.not_le.mp fun m=>f (.inl ⟨l,m⟩)⟩
  simp only [z,k,Int.sub_self]
 ·have p:∀ {u v:Int},(u=Y->xe a b Y=v)->(if u=Y/\v < T then (1:Int) else 0)=if xe a b Y < T then (if u=Y then 1 else 0) else 0:=by
   intro u v hv
   by_cases q:u=Y
   ·simp only [hv q,q,true_and,if_true]
   ·rw [if_neg q,ite_self,if_neg fun r=>q r.1]
  rw [p fun q=>q ▸ xe_end h e,p fun q=>q ▸ xe_start a b]
  by_cases c:xe a b Y < T
  ·rw [if_pos c,if_pos c,if_pos c]
  ·rw [if_neg c,if_neg c,if_neg c]
   rfl
theorem Poly.level (h:Poly P n) {Y T:Int} (fl:∀ j,j < n->(P (j+1)).y=(P j).y->(P j).y=Y->¬ (((P j).x < T/\T<=(P (j+1)).x)\/((P (j+1)).x < T/\T<=(P j).x))):belowW P n Y (Y - 1) T=belowW P n Y Y T:=by
 have e:sm (fun j=>(if xe (P j) (P (j+1)) Y < T then sg (P j) (P (j+1)) (Y - 1) else 0) - (if xe (P j) (P (j+1)) Y < T then sg (P j) (P (j+1)) Y else 0)) n=sm (fun j=>(if (P (j+1)).y=Y/\(P (j+1)).x < T then (1:Int) else 0) - (if (P j).y=Y/\(P j).x < T then 1 else 0)) n :=
  sm_congr fun j hj=>edge_level (h.dir j) (fl j hj)
 rw [sm_sub,sm_tele (fun j=>if (P j).y=Y/\(P j).x < T then (1:Int) else 0)] at e
 have z:P n=P 0:=by
  have:=h.per 0
  rw [Nat.zero_add] at this
  exact this
 rw [z] at e
 unfold belowW
 omega
end
end Wm
namespace Wm
open Eh
section
variable {P:Nat->Corner} {n:Nat}
abbrev sgP (P:Nat->Corner) (i:Nat) (k:Int):Int:=sg (P i) (P (i+1)) k
abbrev xeP (P:Nat->Corner) (i:Nat) (Y:Int):Int:=xe (P i) (P (i+1)) Y
abbrev midP (P:Nat->Corner) (i:Nat) (k:Int):Int:=mid (P i) (P (i+1)) k
def westP (P:Nat->Corner) (n:Nat) (k X:Int):Int:=west (fun j=>sgP P j k) (fun j=>midP P j k) n X
def leftOf (P:Nat->Corner) (n:Nat) (i:Nat) (k:Int):Int:=westP P n k (midP P i k) - (if sgP P i k=1 then 0 else 1)
theorem mid_order {a b c d:Corner} {Y k:Int} (hk:k=Y - 1\/k=Y) (h:xe a b Y < xe c d Y):mid a b k<=mid c d k:=by
 unfold mid
 have s1:=slo_cases a b
 have s2:=slo_cases c d
 rcases hk with rfl | rfl
 ·have e1:=xe_succ a b (Y - 1)
  have e2:=xe_succ c d (Y - 1)
  rw [show Y - 1+1=Y by omega] at e1 e2
  omega
 ·omega
theorem Poly.node_west (h:Poly P n) {i o:Nat} (hi:i < n) (ho:o < n) {Y k xl xr:Int} (hk:k=Y - 1\/k=Y) (si:sgP P i k≠0) (xi:xl<=xeP P i Y/\xeP P i Y<=xr) (xo:xl<=xeP P o Y/\xeP P o Y<=xr)
  (other:∀ j,j < n->j≠i->j≠o->sgP P j k≠0->xeP P j Y < xl\/xr < xeP P j Y) :
  westP P n k (midP P i k)=belowW P n Y k xl+(if midP P o k < midP P i k then sgP P o k else 0):=by
 unfold westP west belowW
 rw [sm_one (g:=fun j=>if xe (P j) (P (j+1)) Y < xl then sg (P j) (P (j+1)) k else 0) ho]
 ·rw [if_neg (show ¬ xe (P o) (P (o+1)) Y < xl from Int.not_lt.mpr xo.1),Int.sub_zero]
 ·intro j hj hne
  by_cases c:j=i
  ·subst c
   rw [if_neg (Int.lt_irrefl _),if_neg (show ¬ xe (P j) (P (j+1)) Y < xl from Int.not_lt.mpr xi.1)]
  · by_cases z : sgP P j k = 0
    · show (if _ then sgP P j k else 0)=(if _ then sgP P j k else 0)
      rw [z]
      simp
    · have ap:=h.halves hj hi c z si
      have x1:xl<=xe (P i) (P (i+1)) Y:=xi.1
      have x2:xe (P i) (P (i+1)) Y<=xr:=xi.2
      rcases other j hj c hne z with q | q
      · have q:xe (P j) (P (j+1)) Y < xl:=q
        have:=mid_order (a:=P j) (b:=P (j+1)) (c:=P i) (d:=P (i+1)) hk (by omega)
        rw [if_pos q,if_pos (show midP P j k < midP P i k from Int.lt_iff_le_and_ne.mpr ⟨this,ap⟩)]
      · have q:xr < xe (P j) (P (j+1)) Y:=q
        have:=mid_order (a:=P i) (b:=P (i+1)) (c:=P j) (d:=P (j+1)) hk (by omega)
        rw [if_neg (show ¬ midP P j k < midP P i k from Int.not_lt.mpr this),if_neg (by omega)]
theorem Poly.node (h:Poly P n) {i o:Nat} (hi:i < n) (ho:o < n) {Y ki ko xl xr:Int}
  (hin:(ki=Y - 1/\sgP P i ki=1)\/(ki=Y/\sgP P i ki=-1)) (hout:(ko=Y/\sgP P o ko=1)\/(ko=Y - 1/\sgP P o ko=-1))
  (xi:xl<=xeP P i Y/\xeP P i Y<=xr) (xo:xl<=xeP P o Y/\xeP P o Y<=xr)
  (other:∀ j k,j < n->(k=Y - 1\/k=Y)->j≠i->j≠o->sgP P j k≠0->xeP P j Y < xl\/xr < xeP P j Y)
  (own:i=o\/(∀ k,(k=Y - 1\/k=Y)->(sgP P i k≠0->k=ki)/\(sgP P o k≠0->k=ko))) (one:i=o->ki≠ko)
  (fl:∀ j,j < n->(P (j+1)).y=(P j).y->(P j).y=Y->¬ (((P j).x < xl/\xl<=(P (j+1)).x)\/((P (j+1)).x < xl/\xl<=(P j).x))) :
  leftOf P n i ki=leftOf P n o ko:=by
 have m1:∀ {z:Int},z=-1->¬ z=1:=fun h=>by rw [h]; decide
 have ni:sgP P i ki≠0:=by rcases hin with ⟨_,q⟩ | ⟨_,q⟩ <;> rw [q] <;> decide
 have no:sgP P o ko≠0:=by rcases hout with ⟨_,q⟩ | ⟨_,q⟩ <;> rw [q] <;> decide
 have li:ki=Y - 1\/ki=Y:=hin.imp And.left And.left
 have lo:ko=Y - 1\/ko=Y:=hout.symm.imp And.left And.left
 have w1:=h.node_west hi ho (Y:=Y) (k:=ki) (xl:=xl) (xr:=xr) li ni xi xo fun j hj a b c=>other j ki hj li a b c
 have w2:=h.node_west ho hi (Y:=Y) (k:=ko) (xl:=xl) (xr:=xr) lo no xo xi fun j hj a b c=>other j ko hj lo b a c
 have lv:=h.level fl
 have k1:∀ z:Int,z + -1 - 0=z+0 - 1:=fun z=>by omega
 have k2:∀ z:Int,z+0 - 0=z+1 - 1:=fun z=>by omega
 have ne1:∀ {z:Int},z - 1=z->False:=fun h=>by omega
 unfold leftOf
 rw [w1,w2]
 by_cases e:i=o
 ·subst e
  rw [if_neg (Int.lt_irrefl _),if_neg (Int.lt_irrefl _)]
  have:=one rfl
  rcases hin with ⟨rfl,q1⟩ | ⟨rfl,q1⟩ <;> rcases hout with ⟨rfl,q2⟩ | ⟨rfl,q2⟩
  ·rw [if_pos q1,if_pos q2,lv]
  ·exact absurd rfl this
  ·exact absurd rfl this
  ·rw [if_neg (m1 q1),if_neg (m1 q2),lv]
 ·have ow:∀ k,(k=Y - 1\/k=Y)->(sgP P i k≠0->k=ki)/\(sgP P o k≠0->k=ko):=by
   rcases own with q | q
   ·exact absurd q e
   ·exact q
  by_cases c:ki=ko
  ·subst c
   have ap:=h.halves hi ho e ni no
   have ap:midP P i ki≠midP P o ki:=ap
   rcases hin with ⟨rfl,q1⟩ | ⟨rfl,q1⟩
   ·have q2:sgP P o (Y - 1)=-1:=by
     rcases hout with ⟨z,_⟩ | ⟨_,q⟩
     ·exact (ne1 z).elim
     ·exact q
    rw [if_pos q1,if_neg (m1 q2),q1,q2]
    by_cases d:midP P o (Y - 1) < midP P i (Y - 1)
    ·rw [if_pos d,if_neg (Int.lt_asymm d)]
     exact k1 _
    ·rw [if_neg d,if_pos (Int.lt_iff_le_and_ne.mpr ⟨Int.not_lt.mp d,ap⟩)]
     exact k2 _
   ·have q2:sgP P o ki=1:=by
     rcases hout with ⟨_,q⟩ | ⟨z,_⟩
     ·exact q
     ·exact (ne1 z.symm).elim
    rw [if_neg (m1 q1),if_pos q2,q1,q2]
    by_cases d:midP P o ki < midP P i ki
    ·rw [if_pos d,if_neg (Int.lt_asymm d)]
     exact (k2 _).symm
    ·rw [if_neg d,if_pos (Int.lt_iff_le_and_ne.mpr ⟨Int.not_lt.mp d,ap⟩)]
     exact (k1 _).symm
  ·have z1:sgP P o ki=0:=Classical.byContradiction fun q=>c ((ow ki li).2 q)
   have z2:sgP P i ko=0:=Classical.byContradiction fun q=>c ((ow ko lo).1 q).symm
   rw [z1,z2]
   simp only [ite_self]
   rcases hin with ⟨rfl,q1⟩ | ⟨rfl,q1⟩ <;> rcases hout with ⟨rfl,q2⟩ | ⟨rfl,q2⟩
   ·rw [if_pos q1,if_pos q2,lv]
   ·exact absurd rfl c
   ·exact absurd rfl c
   ·rw [if_neg (m1 q1),if_neg (m1 q2),lv]
end
end Wm
namespace Wm
open Eh
def kf (a b:Corner):Int:=if a.y < b.y then a.y else a.y - 1
def kl (a b:Corner):Int:=if a.y < b.y then b.y - 1 else b.y
theorem sg_up {a b:Corner} {k:Int} (h:a.y<=k/\k < b.y):sg a b k=1:=if_pos h
theorem sg_down {a b:Corner} {k:Int} (h:b.y<=k/\k < a.y):sg a b k=-1:=by
 unfold sg
 rw [if_neg (by omega),if_pos h]
theorem in_ok {a b:Corner} (h:b.y≠a.y):(kl a b=b.y - 1/\sg a b (kl a b)=1)\/(kl a b=b.y/\sg a b (kl a b)=-1):=by
 unfold kl
 by_cases c:a.y < b.y
 ·rw [if_pos c]
  exact .inl ⟨rfl,sg_up (by omega)⟩
 ·rw [if_neg c]
  exact .inr ⟨rfl,sg_down (by omega)⟩
theorem out_ok {a b:Corner} (h:b.y≠a.y):(kf a b=a.y/\sg a b (kf a b)=1)\/(kf a b=a.y - 1/\sg a b (kf a b)=-1):=by
 unfold kf
 by_cases c:a.y < b.y
 ·rw [if_pos c]
  exact .inl ⟨rfl,sg_up (by omega)⟩
 ·rw [if_neg c]
  exact .inr ⟨rfl,sg_down (by omega)⟩
theorem in_only {a b:Corner} {k:Int} (hk:k=b.y - 1\/k=b.y) (h:sg a b k≠0):k=kl a b:=by
 have:=sg_ne h
 unfold kl
 split <;> omega
theorem out_only {a b:Corner} {k:Int} (hk:k=a.y - 1\/k=a.y) (h:sg a b k≠0):k=kf a b:=by
 have:=sg_ne h
 unfold kf
 split <;> omega
theorem leg_on {a b:Corner} (d:dirC a b=true) {k Y:Int} (hk:k=Y - 1\/k=Y) (h:sg a b k≠0):On a b (xe a b Y) Y:=by
 have:=sg_ne h
 exact xe_on d (by omega) (by omega)
section
variable {P:Nat->Corner} {n:Nat}
theorem Poly.flat_next (h:Poly P n) {i:Nat} (e:(P (i+1)).y=(P i).y):(P (i+2)).y≠(P (i+1)).y:=by
 intro z
 have:=h.bend i
 unfold alongC at this
 have:=beq_eq_false_iff_ne.mp this
 apply this
 have t1:(P (i+1)).y - (P i).y=0:=by omega
 have t2:(P (i+2)).y - (P (i+1)).y=0:=by omega
 rw [t1,t2,Int.mul_zero,Int.zero_mul]
 rfl
theorem mod_inj {n i j:Nat} (hi:i < n) (hj:j < n) (e:(i+1) % n=(j+1) % n):i=j:=by
 by_cases c:i+1=n
 · by_cases d : j + 1 = n
   · omega
   · rw [c,Nat.mod_self,Nat.mod_eq_of_lt (by omega)] at e
     omega
 · by_cases d : j + 1 = n
   · rw [d,Nat.mod_self,Nat.mod_eq_of_lt (by omega)] at e
     omega
   · rw [Nat.mod_eq_of_lt (by omega),Nat.mod_eq_of_lt (by omega)] at e
     omega
theorem next_ne {n i:Nat} (h3:3<=n) (hi:i < n):(i+1) % n≠i:=by
 by_cases c:i+1=n
 ·rw [c,Nat.mod_self]
  omega
 ·rw [Nat.mod_eq_of_lt (by omega)]
  omega
theorem next2_ne {n i:Nat} (h3:3<=n) (hi:i < n):(i+2) % n≠i:=by
 by_cases c:i+2 < n
 ·rw [Nat.mod_eq_of_lt c]
  omega
 ·rw [Nat.mod_eq_sub_mod (by omega),Nat.mod_eq_of_lt (by omega)]
  omega
theorem Poly.along (h:Poly P n) {i:Nat} (hi:i < n) {Y:Int} (hY:((P i).y < Y/\Y < (P (i+1)).y)\/((P (i+1)).y < Y/\Y < (P i).y)):leftOf P n i (Y - 1)=leftOf P n i Y:=by
 have no:∀ j,j < n->j≠i->¬ On (P j) (P (j+1)) (xeP P i Y) Y:=by
  intro j hj hne o2
  have o1:=xe_on (h.dir i) (Y:=Y) (by omega) (by omega)
  rcases h.two_lines hi hj (fun e=>hne e.symm) o1 o2 with ⟨_,_,e⟩ | ⟨c,_,e⟩
  ·omega
  ·have:P i=P (j+1):=by rw [← c]; exact h.mod _
   rw [← this] at e
   omega
 have key:∀ ki ko,((ki=Y - 1/\sgP P i ki=1)\/(ki=Y/\sgP P i ki=-1))->((ko=Y/\sgP P i ko=1)\/(ko=Y - 1/\sgP P i ko=-1))->ki≠ko->leftOf P n i ki=leftOf P n i ko:=by
  intro ki ko a b c
  refine h.node hi hi (Y:=Y) (xl:=xeP P i Y) (xr:=xeP P i Y) a b ⟨Int.le_refl _,Int.le_refl _⟩ ⟨Int.le_refl _,Int.le_refl _⟩ ?_ (.inl rfl) (fun _=>c) ?_
  ·intro j k hj hk hne _ hs
   have o2:=leg_on (h.dir j) hk hs
   rcases Int.lt_trichotomy (xeP P j Y) (xeP P i Y) with q | q | q
   ·exact .inl q
   ·have q:xe (P j) (P (j+1)) Y=xeP P i Y:=q
    rw [q] at o2
    exact absurd o2 (no j hj hne)
   ·exact .inr q
  ·intro j hj e1 e2 st
   have hne:j≠i:=fun e=>by
    subst e
    omega
   have o2:=flat_on (h.dir j) (X:=xeP P i Y) e1 (by omega)
   rw [e2] at o2
   exact no j hj hne o2
 rcases hY with q | q
 ·exact key (Y - 1) Y (.inl ⟨rfl,sg_up (by omega)⟩) (.inl ⟨rfl,sg_up (by omega)⟩) (by omega)
 ·exact (key Y (Y - 1) (.inr ⟨rfl,sg_down (by omega)⟩) (.inr ⟨rfl,sg_down (by omega)⟩) (by omega)).symm
theorem Poly.whole (h:Poly P n) {i:Nat} (hi:i < n) (k:Int):∀ m:Nat,sgP P i k≠0->sgP P i (k+m)≠0->leftOf P n i k=leftOf P n i (k+m)
 | 0,_,_=>by simp
 | m+1,h1,h2=>by
  have g1:=sg_ne h1
  have g2:=sg_ne h2
  have h3:sgP P i (k+m)≠0:=by
   show sg (P i) (P (i+1)) (k+m)≠0
   rcases g1 with ⟨a,b,_⟩ | ⟨a,b,_⟩
   ·rw [sg_up (a:=P i) (b:=P (i+1)) (by omega)]
    decide
   ·rw [sg_down (a:=P i) (b:=P (i+1)) (by omega)]
    decide
  rw [h.whole hi k m h1 h3]
  have:=h.along hi (Y:=k+m+1) (by omega)
  have e1:k+(m:Int)+1 - 1=k+m:=by omega
  have e2:k+(m:Int)+1=k+((m+1:Nat):Int):=by omega
  rw [e1,e2] at this
  exact this
theorem Poly.legs (h:Poly P n) {i:Nat} (hi:i < n) {k k':Int} (h1:sgP P i k≠0) (h2:sgP P i k'≠0):leftOf P n i k=leftOf P n i k':=by
 rcases Int.le_total k k' with q | q
 ·have e:k'=k+((k' - k).toNat:Int):=by omega
  rw [e]
  exact h.whole hi k _ h1 (e ▸ h2)
 ·have e:k=k'+((k - k').toNat:Int):=by omega
  rw [e]
  exact (h.whole hi k' _ h2 (e ▸ h1)).symm
theorem Poly.corner (h:Poly P n) {i:Nat} (hi:i < n) (n1:(P (i+1)).y≠(P i).y) (n2:(P (i+2)).y≠(P (i+1)).y):leftOf P n i (kl (P i) (P (i+1)))=leftOf P n ((i+1) % n) (kf (P (i+1)) (P (i+2))):=by
 have ho:(i+1) % n < n:=Nat.mod_lt _ (by have:=h.n3; omega)
 have p1:P ((i+1) % n)=P (i+1):=h.mod _
 have p2:P ((i+1) % n+1)=P (i+2):=h.mod1 _
 have dir2:=h.dir (i+1)
 have no:∀ j,j < n->j≠i->j≠(i+1) % n->¬ On (P j) (P (j+1)) (P (i+1)).x (P (i+1)).y:=by
  intro j hj hne hno o2
  rcases h.two_lines hi hj (fun e=>hne e.symm) (end_on (h.dir i)) o2 with ⟨c,_⟩ | ⟨c,_,e⟩
  ·exact hno c.symm
  ·have:P i=P (j+1):=by rw [← c]; exact h.mod _
   rw [← this] at e
   exact n1 e
 have x1:xeP P i (P (i+1)).y=(P (i+1)).x:=xe_end (h.dir i) n1
 have x2:xeP P ((i+1) % n) (P (i+1)).y=(P (i+1)).x:=by
  show xe (P ((i+1) % n)) (P ((i+1) % n+1)) (P (i+1)).y=_
  rw [p1,p2]
  exact xe_start _ _
 have s2:∀ k,sgP P ((i+1) % n) k=sg (P (i+1)) (P (i+2)) k:=fun k=>by
  show sg (P ((i+1) % n)) (P ((i+1) % n+1)) k=_
  rw [p1,p2]
 refine h.node hi ho (Y:=(P (i+1)).y) (xl:=(P (i+1)).x) (xr:=(P (i+1)).x) (in_ok n1) (by rw [s2]; exact out_ok n2) (by rw [x1]; exact ⟨Int.le_refl _,Int.le_refl _⟩) (by rw [x2]; exact ⟨Int.le_refl _,Int.le_refl _⟩) ?_ (.inr fun k hk=>⟨fun q=>in_only hk q,fun q=>out_only hk (by rw [← s2]; exact q)⟩) (fun e=>absurd e.symm (next_ne h.n3 hi)) ?_
 ·intro j k hj hk hne hno hs
  have o2:=leg_on (h.dir j) hk hs
  rcases Int.lt_trichotomy (xeP P j (P (i+1)).y) (P (i+1)).x with q | q | q
  ·exact .inl q
  ·have q:xe (P j) (P (j+1)) (P (i+1)).y=(P (i+1)).x:=q
   rw [q] at o2
   exact absurd o2 (no j hj hne hno)
  ·exact .inr q
 ·intro j hj e1 e2 st
  have hne:j≠i:=fun e=>by
   subst e
   exact n1 e1
  have hno:j≠(i+1) % n:=fun e=>by
   rw [e,p1,p2] at e1
   exact n2 e1
  have o2:=flat_on (h.dir j) (X:=(P (i+1)).x) e1 (by omega)
  rw [e2] at o2
  exact no j hj hne hno o2
theorem Poly.flat (h:Poly P n) {i:Nat} (hi:i < n) (n1:(P (i+1)).y≠(P i).y) (fl:(P (i+2)).y=(P (i+1)).y):leftOf P n i (kl (P i) (P (i+1)))=leftOf P n ((i+2) % n) (kf (P (i+2)) (P (i+3))):=by
 have n3:=h.n3
 have hh:(i+1) % n < n:=Nat.mod_lt _ (by omega)
 have ho:(i+2) % n < n:=Nat.mod_lt _ (by omega)
 have n2:(P (i+3)).y≠(P (i+2)).y:=h.flat_next (i:=i+1) fl
 have p1:P ((i+1) % n)=P (i+1):=h.mod _
 have p2:P ((i+1) % n+1)=P (i+2):=h.mod1 _
 have p3:P ((i+2) % n)=P (i+2):=h.mod _
 have p4:P ((i+2) % n+1)=P (i+3):=h.mod1 _
 have hon:∀ X,min (P (i+1)).x (P (i+2)).x<=X->X<=max (P (i+1)).x (P (i+2)).x->On (P ((i+1) % n)) (P ((i+1) % n+1)) X (P (i+1)).y:=fun X a b=>by
  rw [p1,p2]
  exact flat_on (h.dir (i+1)) fl (show ((P (i+1)).x<=X/\X<=(P (i+2)).x)\/((P (i+2)).x<=X/\X<=(P (i+1)).x) by omega)
 have no:∀ j X,j < n->j≠i->j≠(i+1) % n->j≠(i+2) % n->min (P (i+1)).x (P (i+2)).x<=X->X<=max (P (i+1)).x (P (i+2)).x->¬ On (P j) (P (j+1)) X (P (i+1)).y:=by
  intro j X hj hne hnh hno a b o2
  rcases h.two_lines hh hj (fun e=>hnh e.symm) (hon X a b) o2 with ⟨c,_⟩ | ⟨c,_⟩
  ·rw [Nat.mod_add_mod] at c
   exact hno c.symm
  ·exact hne (mod_inj hj hi c)
 have x1:xeP P i (P (i+1)).y=(P (i+1)).x:=xe_end (h.dir i) n1
 have x2:xeP P ((i+2) % n) (P (i+1)).y=(P (i+2)).x:=by
  show xe (P ((i+2) % n)) (P ((i+2) % n+1)) (P (i+1)).y=_
  rw [p3,p4,← fl]
  exact xe_start _ _
 have s2:∀ k,sgP P ((i+2) % n) k=sg (P (i+2)) (P (i+3)) k:=fun k=>by
  show sg (P ((i+2) % n)) (P ((i+2) % n+1)) k=_
  rw [p3,p4]
 refine h.node hi ho (Y:=(P (i+1)).y) (xl:=min (P (i+1)).x (P (i+2)).x) (xr:=max (P (i+1)).x (P (i+2)).x) (in_ok n1) (by rw [s2,← fl]; exact out_ok n2) (by rw [x1]; omega) (by rw [x2]; omega) ?_ (.inr fun k hk=>⟨fun q=>in_only hk q,fun q=>out_only (by omega) (by rw [← s2]; exact q)⟩) (fun e=>absurd e.symm (next2_ne n3 hi)) ?_
 ·intro j k hj hk hne hno hs
  have hnh:j≠(i+1) % n:=fun e=>by
   have hs:sg (P j) (P (j+1)) k≠0:=hs
   rw [e,p1,p2] at hs
   have:=sg_ne hs
   omega
  have o2:=leg_on (h.dir j) hk hs
  by_cases q:xe (P j) (P (j+1)) (P (i+1)).y < min (P (i+1)).x (P (i+2)).x
  ·exact .inl q
  ·by_cases q2:max (P (i+1)).x (P (i+2)).x < xe (P j) (P (j+1)) (P (i+1)).y
   ·exact .inr q2
   ·exact absurd o2 (no j _ hj hne hnh hno (by omega) (by omega))
 ·intro j hj e1 e2 st
  have hne:j≠i:=fun e=>by
   subst e
   exact n1 e1
  have hno:j≠(i+2) % n:=fun e=>by
   rw [e,p3,p4] at e1
   exact n2 e1
  by_cases c:j=(i+1) % n
  ·rw [c,p1,p2] at st
   omega
  ·have o2:=flat_on (h.dir j) (X:=min (P (i+1)).x (P (i+2)).x) e1 (by omega)
   rw [e2] at o2
   exact no j _ hj hne c hno (Int.le_refl _) (by omega) o2
end
end Wm
namespace Wm
open Eh
section
variable {P:Nat->Corner} {n:Nat}
theorem leftOf_mod (h:Poly P n) (i:Nat) (k:Int):leftOf P n (i % n) k=leftOf P n i k:=by
 have e1:sgP P (i % n) k=sgP P i k:=by
  show sg (P (i % n)) (P (i % n+1)) k=_
  rw [h.mod,h.mod1]
 have e2:midP P (i % n) k=midP P i k:=by
  show mid (P (i % n)) (P (i % n+1)) k=_
  rw [h.mod,h.mod1]
 unfold leftOf
 rw [e1,e2]
def lf (P:Nat->Corner) (n i:Nat):Int:=leftOf P n i (kf (P i) (P (i+1)))
theorem Poly.legs' (h:Poly P n) (i:Nat) {k k':Int} (h1:sgP P i k≠0) (h2:sgP P i k'≠0):leftOf P n i k=leftOf P n i k':=by
 rw [← leftOf_mod h i k,← leftOf_mod h i k']
 refine h.legs (Nat.mod_lt _ (by have:=h.n3; omega)) ?_ ?_
 ·show sg (P (i % n)) (P (i % n+1)) k≠0
  rw [h.mod,h.mod1]
  exact h1
 ·show sg (P (i % n)) (P (i % n+1)) k'≠0
  rw [h.mod,h.mod1]
  exact h2
theorem Poly.last (h:Poly P n) {i:Nat} (n1:(P (i+1)).y≠(P i).y):lf P n i=leftOf P n i (kl (P i) (P (i+1))):=by
 refine h.legs' i ?_ ?_
 ·show sg (P i) (P (i+1)) _≠0
  have:=out_ok n1
  omega
 ·show sg (P i) (P (i+1)) _≠0
  have:=in_ok n1
  omega
theorem mod2 (h:Poly P n) (i j:Nat):P (i % n+j)=P (i+j):=by
 rw [← h.mod (i % n+j),← h.mod (i+j),Nat.mod_add_mod]
theorem Poly.step1 (h:Poly P n) {i:Nat} (n1:(P (i+1)).y≠(P i).y) (n2:(P (i+2)).y≠(P (i+1)).y):lf P n i=lf P n (i+1):=by
 have hi:i % n < n:=Nat.mod_lt _ (by have:=h.n3; omega)
 have q:=h.corner hi (by rw [mod2 h,h.mod]; exact n1) (by rw [mod2 h,mod2 h]; exact n2)
 rw [mod2 h,mod2 h,h.mod,Nat.mod_add_mod,leftOf_mod h,leftOf_mod h] at q
 rw [h.last n1]
 exact q
theorem Poly.step2 (h:Poly P n) {i:Nat} (n1:(P (i+1)).y≠(P i).y) (n2:(P (i+2)).y=(P (i+1)).y):lf P n i=lf P n (i+2):=by
 have hi:i % n < n:=Nat.mod_lt _ (by have:=h.n3; omega)
 have q:=h.flat hi (by rw [mod2 h,h.mod]; exact n1) (by rw [mod2 h,mod2 h]; exact n2)
 rw [mod2 h,mod2 h,mod2 h,h.mod,leftOf_mod h,Nat.mod_add_mod,leftOf_mod h] at q
 rw [h.last n1]
 exact q
def lfE (P:Nat->Corner) (n i:Nat):Int:=if (P (i+1)).y=(P i).y then lf P n (i+1) else lf P n i
theorem Poly.stepE (h:Poly P n) (i:Nat):lfE P n i=lfE P n (i+1):=by
 unfold lfE
 by_cases c:(P (i+1)).y=(P i).y
 ·rw [if_pos c,if_neg (h.flat_next c)]
 ·rw [if_neg c]
  by_cases d:(P (i+1+1)).y=(P (i+1)).y
  ·rw [if_pos d]
   exact h.step2 c d
  ·rw [if_neg d]
   exact h.step1 c d
theorem Poly.all (h:Poly P n):∀ i,lfE P n i=lfE P n 0
 | 0=>rfl
 | i+1=>by rw [← h.stepE i,h.all i]
theorem Poly.leg (h:Poly P n) {i:Nat} {k:Int} (hs:sgP P i k≠0):leftOf P n i k=lfE P n 0:=by
 have g:=sg_ne hs
 have n1:(P (i+1)).y≠(P i).y:=by omega
 rw [← h.all i]
 unfold lfE
 rw [if_neg n1]
 refine h.legs' i hs ?_
 show sg (P i) (P (i+1)) _≠0
 have:=out_ok n1
 omega
theorem mid_in {a b:Corner} (d:dirC a b=true) (ha:0<=a.x/\a.x<=4095) (hb:0<=b.x/\b.x<=4095) {k:Int} (hs:sg a b k≠0):0<=mid a b k/\mid a b k < 10000:=by
 have g:=sg_ne hs
 unfold mid xe
 rcases forms d with ⟨e,_⟩ | ⟨_,s,e,_⟩ | ⟨_,s,e,_⟩ | ⟨_,s,e,_⟩
 ·omega
 all_goals rw [s]; omega
theorem Poly.lev (h:Poly P n) (hx:∀ i,0<=(P i).x/\(P i).x<=4095) (k:Int):Lev (fun j=>sgP P j k) (fun j=>midP P j k) n (lfE P n 0) where
 sg:=fun j _=>by
  by_cases z:sgP P j k=0
  ·exact .inr (.inl z)
  ·rcases sg_ne z with ⟨_,_,e⟩ | ⟨_,_,e⟩
   ·exact .inl e
   ·exact .inr (.inr e)
 pos:=fun j _ hs=>(mid_in (h.dir j) (hx j) (hx (j+1)) hs).1
 apart:=fun i j hi hj hne h1 h2=>h.halves hi hj hne h1 h2
 up:=fun j _ e=>by
  have e:sgP P j k=1:=e
  have:=h.leg (i:=j) (k:=k) (by omega)
  unfold leftOf at this
  rw [if_pos e] at this
  show westP P n k (midP P j k)=_
  omega
 down:=fun j _ e=>by
  have e:sgP P j k=-1:=e
  have:=h.leg (i:=j) (k:=k) (by omega)
  unfold leftOf at this
  rw [if_neg (by omega)] at this
  show westP P n k (midP P j k)=_
  omega
theorem Poly.tot (h:Poly P n) (k:Int):sm (fun j=>sgP P j k) n=0:=by
 have t:=sm_tele (fun i=>if k < (P i).y then (1:Int) else 0) n
 have c:sm (fun j=>sgP P j k) n=_:=(sm_congr (g:=fun j=>(if k < (P (j+1)).y then (1:Int) else 0) - (if k < (P j).y then 1 else 0)) fun j _=>sg_tele (P j) (P (j+1)) k).trans t
 rw [c]
 have z:P n=P 0:=by
  have:=h.per 0
  rw [Nat.zero_add] at this
  exact this
 show (if k < (P n).y then (1:Int) else 0) - (if k < (P 0).y then (1:Int) else 0)=0
 rw [z]
 omega
theorem climb (x0 s:Int) (y0 y1:Nat) (h:y0<=y1):∀ m:Nat,sm (fun k=>if y0<=k/\k < y1 then 2*(x0+s*((k:Int) - y0))+s else 0) m=if m<=y0 then 0 else if m<=y1 then ((m:Int) - y0)*(2*x0+s*((m:Int) - y0)) else ((y1:Int) - y0)*(2*x0+s*((y1:Int) - y0))
 | 0=>by rw [if_pos (Nat.zero_le _)]; rfl
 | m+1=>by
  show sm _ m+(if y0<=m/\m < y1 then 2*(x0+s*((m:Int) - y0))+s else 0)=_
  rw [climb x0 s y0 y1 h m]
  by_cases c1:m+1<=y0
  ·rw [if_pos (show m<=y0 by omega),if_neg (show ¬ (y0<=m/\m < y1) by omega),if_pos c1]
   rfl
  · by_cases c2 : m + 1 ≤ y1
    · rw [if_neg c1,if_pos c2,if_pos (show y0<=m/\m < y1 from ⟨by omega,by omega⟩)]
      have e:(((m+1:Nat):Int) - y0)=((m:Int) - y0)+1:=by omega
      rw [e]
      by_cases c3:m<=y0
      · have z:(m:Int) - y0=0:=by omega
        rw [if_pos c3,z]
        simp
      · rw [if_neg c3,if_pos (by omega)]
        generalize (m:Int) - y0=d
        grind
    · rw [if_neg c1,if_neg c2,if_neg (by omega:¬ (y0<=m/\m < y1))]
      by_cases c3:m<=y0
      · have:m=y0/\y1=y0:=by omega
        rw [if_pos c3]
        have z:(y1:Int) - y0=0:=by omega
        rw [z]
        simp
      · rw [if_neg c3]
        by_cases c4:m<=y1
        · have:(m:Int)=y1:=by omega
          rw [if_pos c4,this]
          omega
        · rw [if_neg c4]
          omega
theorem edge_area {a b:Corner} (d:dirC a b=true) (ha:0<=a.y/\a.y<=4095) (hb:0<=b.y/\b.y<=4095):sm (fun k=>sg a b k*mid a b k) 4096=(a.x+b.x)*(b.y - a.y):=by
 by_cases e:b.y=a.y
 ·rw [sm_congr (g:=fun _=>0),sm_zero,e,Int.sub_self,Int.mul_zero]
  intro k _
  have:sg a b k=0:=Classical.byContradiction fun q=>by
   have:=sg_ne q
   omega
  rw [this,Int.zero_mul]
 ·have bx:b.x=a.x+slo a b*(b.y - a.y):=by
   have:=xe_end d e
   unfold xe at this
   omega
  obtain ⟨y0,hy0⟩:=Int.eq_ofNat_of_zero_le ha.1
  obtain ⟨y1,hy1⟩:=Int.eq_ofNat_of_zero_le hb.1
  by_cases c:a.y < b.y
  ·rw [sm_congr (g:=fun k=>if y0<=k/\k < y1 then 2*(a.x+slo a b*((k:Int) - y0))+slo a b else 0),climb a.x (slo a b) y0 y1 (by omega),if_neg (by omega)]
   ·have e2:(if 4096<=y1 then (((4096:Nat):Int) - y0)*(2*a.x+slo a b*(((4096:Nat):Int) - y0)) else ((y1:Int) - y0)*(2*a.x+slo a b*((y1:Int) - y0)))=((y1:Int) - y0)*(2*a.x+slo a b*((y1:Int) - y0)):=if_neg (by omega)
    rw [e2,bx,hy0,hy1,Int.mul_comm]
    congr 1
    omega
   ·intro k _
    unfold mid xe
    by_cases q:y0<=k/\k < y1
    ·rw [if_pos q,sg_up (by omega),Int.one_mul,hy0]
    ·rw [if_neg q]
     have:sg a b k=0:=Classical.byContradiction fun z=>by
      have:=sg_ne z
      omega
     rw [this,Int.zero_mul]
  ·have e3:sm (fun k=>sg a b k*mid a b k) 4096=- sm (fun k=>if y1<=k/\k < y0 then 2*(b.x+slo a b*((k:Int) - y1))+slo a b else 0) 4096:=by
    rw [← sm_neg]
    refine sm_congr fun k _=>?_
    unfold mid xe
    by_cases q:y1<=k/\k < y0
    ·rw [if_pos q,sg_down (by omega),bx,hy0,hy1]
     generalize slo a b=s
     have:(k:Int) - y0=((y1:Int) - y0)+((k:Int) - y1):=by omega
     show -1*(2*(a.x+s*((k:Int) - y0))+s)=-(2*(a.x+s*((y1:Int) - y0)+s*((k:Int) - y1))+s)
     rw [this,Int.mul_add]
     grind
    ·rw [if_neg q]
     have:sg a b k=0:=Classical.byContradiction fun z=>by
      have:=sg_ne z
      omega
     rw [this,Int.zero_mul]
     rfl
   rw [e3,climb b.x (slo a b) y1 y0 (by omega),if_neg (by omega)]
   have e2:(if 4096<=y0 then (((4096:Nat):Int) - y1)*(2*b.x+slo a b*(((4096:Nat):Int) - y1)) else ((y0:Int) - y1)*(2*b.x+slo a b*((y0:Int) - y1)))=((y0:Int) - y1)*(2*b.x+slo a b*((y0:Int) - y1)):=if_neg (by omega)
   rw [e2,bx,hy0,hy1]
   generalize slo a b=s
   generalize a.x=x
   show -(((y0:Int) - y1)*(2*(x+s*((y1:Int) - y0))+s*((y0:Int) - y1)))=(x+(x+s*((y1:Int) - y0)))*((y1:Int) - y0)
   have t:(y0:Int) - y1=-((y1:Int) - y0):=by omega
   rw [t]
   generalize (y1:Int) - y0=dd
   grind
end
end Wm
namespace Wm
open Eh
theorem both_signs {s:Nat->Int} {n j:Nat} (hs:∀ i,i < n->s i=1\/s i=0\/s i=-1) (tot:sm s n=0) (hj:j < n) (h:s j≠0):(∃ i,i < n/\s i=1)/\∃ i,i < n/\s i=-1:=by
 constructor
 ·refine Classical.byContradiction fun q=>?_
  have le:∀ i,i < n->0<=- s i:=fun i hi=>by
   have:=hs i hi
   have:s i≠1:=fun e=>q ⟨i,hi,e⟩
   omega
  have:=sm_pos (f:=fun i=>- s i) (n:=n) (o:=j) le hj (by have:=le j hj; show 0 < - s j; omega)
  rw [sm_neg] at this
  omega
 ·refine Classical.byContradiction fun q=>?_
  have le:∀ i,i < n->0<=s i:=fun i hi=>by
   have:=hs i hi
   have:s i≠-1:=fun e=>q ⟨i,hi,e⟩
   omega
  have:=sm_pos (f:=s) (n:=n) (o:=j) le hj (by have:=le j hj; omega)
  omega
section
variable {P:Nat->Corner} {n:Nat}
theorem Poly.area_ne (h:Poly P n) (hx:∀ i,0<=(P i).x/\(P i).x<=4095) (hy:∀ i,0<=(P i).y/\(P i).y<=4095):sm (fun i=>(P i).x*(P (i+1)).y - (P (i+1)).x*(P i).y) n≠0:=by
 have z:P n=P 0:=by
  have:=h.per 0
  rw [Nat.zero_add] at this
  exact this
 have e1:sm (fun i=>(P i).x*(P (i+1)).y - (P (i+1)).x*(P i).y) n=sm (fun j=>sm (fun k=>sgP P j k*midP P j k) 4096) n:=by
  have t:=sm_tele (fun i=>(P i).x*(P i).y) n
  have a:=sm_add (fun i=>(P i).x*(P (i+1)).y - (P (i+1)).x*(P i).y) (fun i=>(P (i+1)).x*(P (i+1)).y - (P i).x*(P i).y) n
  rw [t,z,Int.sub_self,Int.add_zero] at a
  rw [← a]
  refine sm_congr fun j _=>?_
  have:=edge_area (h.dir j) (hy j) (hy (j+1))
  show _=sm (fun k=>sg (P j) (P (j+1)) k*mid (P j) (P (j+1)) k) 4096
  rw [this]
  generalize (P j).x=a
  generalize (P j).y=b
  generalize (P (j+1)).x=c
  generalize (P (j+1)).y=d
  grind
 rw [e1,sm_swap]
 clear e1
 generalize hN:(4096:Nat)=N
 have n3:=h.n3
 obtain ⟨i0,hi0,ne0⟩:∃ i,i < n/\(P (i+1)).y≠(P i).y:=by
  by_cases c:(P (0+1)).y=(P 0).y
  ·exact ⟨1,by omega,h.flat_next c⟩
  ·exact ⟨0,by omega,c⟩
 have o:=out_ok ne0
 have s0:sgP P i0 (kf (P i0) (P (i0+1)))≠0:=by
  show sg (P i0) (P (i0+1)) _≠0
  omega
 have g0:=sg_ne s0
 have y0:=hy i0
 have y1:=hy (i0+1)
 generalize hk0:kf (P i0) (P (i0+1))=k0 at *
 have kc:((k0.toNat:Nat):Int)=k0:=by omega
 have L:=h.lev hx
 have m0:=mid_in (h.dir i0) (hx i0) (hx (i0+1)) s0
 have hc:lfE P n 0=0\/lfE P n 0=-1:=(L k0).c01 10000 i0 hi0 s0 (by
  show midP P i0 k0<=_
  have:midP P i0 k0 < 10000:=m0.2
  omega)
 have bs:=both_signs (s:=fun j=>sgP P j k0) (fun i hi=>(L k0).sg i hi) (h.tot k0) hi0 s0
 have key:∀ k:Nat,_:=fun k:Nat=>(L k).sum hc (M:=10000) (fun j hj hs=>(mid_in (h.dir j) (hx j) (hx (j+1)) hs).2) (h.tot k)
 have kk:=key k0.toNat
 rw [kc] at kk
 rcases hc with c | c
 ·have le:∀ k:Nat,k < N->0<=- sm (fun j=>sgP P j (k:Int)*midP P j (k:Int)) n:=fun k _=>by
   have:=((key k).1 c).1
   omega
  have:=sm_pos (f:=fun k:Nat=>- sm (fun j=>sgP P j (k:Int)*midP P j (k:Int)) n) (n:=N) (o:=k0.toNat) le (by omega) (by
   show 0 < - sm (fun j=>sgP P j ((k0.toNat:Nat):Int)*midP P j ((k0.toNat:Nat):Int)) n
   rw [kc]
   have:=(kk.1 c).2 bs.1
   omega)
  rw [sm_neg (fun k:Nat=>sm (fun j=>sgP P j (k:Int)*midP P j (k:Int)) n)] at this
  omega
 ·have le:∀ k:Nat,k < N->0<=sm (fun j=>sgP P j (k:Int)*midP P j (k:Int)) n:=fun k _=>((key k).2 c).1
  have:=sm_pos (f:=fun k:Nat=>sm (fun j=>sgP P j (k:Int)*midP P j (k:Int)) n) (n:=N) (o:=k0.toNat) le (by omega) (by
   show 0 < sm (fun j=>sgP P j ((k0.toNat:Nat):Int)*midP P j ((k0.toNat:Nat):Int)) n
   rw [kc]
   exact (kk.2 c).2 bs.2)
  omega
end
theorem foldr_sm (f:Nat->Int):∀ n:Nat,((List.range n).map f).foldr (fun (a b:Int)=>a+b) 0=sm f n:=by
 have app:∀ (l:List Int) (x:Int),(l ++ [x]).foldr (fun (a b:Int)=>a+b) 0=l.foldr (fun (a b:Int)=>a+b) 0+x:=by
  intro l x
  induction l with
  | nil=>show x+0=0+x; omega
  | cons y l ih =>
   show y+(l ++ [x]).foldr (fun (a b:Int)=>a+b) 0=y+l.foldr (fun (a b:Int)=>a+b) 0+x
   rw [ih]
   omega
 intro n
 induction n with
 | zero=>rfl
 | succ n ih=>rw [List.range_succ,List.map_append,List.map_cons,List.map_nil,app,ih] <;> rfl
theorem find_some {p:Nat->Bool} {i:Nat}:∀ {n a:Nat},a<=i->i < a+n->p i=true->(∀ j,a<=j->j < i->p j=false)->(List.range' a n).find? p=some i
 | 0,a,h1,h2,_,_=>by omega
 | n+1,a,h1,h2,h3,h4=>by
  rw [List.range'_succ,List.find?_cons]
  by_cases c:a=i
  ·subst c
   rw [h3]
  ·rw [h4 a (Nat.le_refl _) (by omega)]
   exact find_some (by omega) (by omega) h3 fun j a1 a2=>h4 j (by omega) a2
theorem find_range {p:Nat->Bool} {i n:Nat} (h2:i < n) (h3:p i=true) (h4:∀ j,j < i->p j=false):(List.range n).find? p=some i:=by
 rw [List.range_eq_range']
 exact find_some (Nat.zero_le _) (by omega) h3 fun j _ a=>h4 j a
theorem find_nothing {p:Nat->Bool} {n:Nat} (h:∀ j,j < n->p j=false):(List.range n).find? p=none:=by
 rw [List.find?_eq_none]
 intro x hx
 rw [h x (List.mem_range.mp hx)]
 exact Bool.false_ne_true
end Wm
namespace Wm
open Eh
theorem mnn {u a:Rat} (hu:0<=u) (ha:0<=a):0<=u*a:=Rat.mul_nonneg hu ha
theorem mnp {u a:Rat} (hu:0<=u) (ha:a<=0):u*a<=0:=by
 have:=mnn hu (show 0<=-a by grind)
 grind
theorem mpn {u a:Rat} (hu:u<=0) (ha:0<=a):u*a<=0:=by
 have:=mnn (show 0<=-u by grind) ha
 grind
theorem mpp {u a:Rat} (hu:u<=0) (ha:a<=0):0<=u*a:=by
 have:=mnn (show 0<=-u by grind) (show 0<=-a by grind)
 grind
theorem pos_of_mul {u a:Rat} (hu:0 < u) (h:0 < u*a):0 < a:=by
 rcases (show a<=0\/0 < a by grind) with c | c
 ·have:=mnp (show 0<=u by grind) c
  grind
 ·exact c
theorem neg_of_mul' {u a:Rat} (hu:0 < u) (h:u*a < 0):a < 0:=by
 rcases (show 0<=a\/a < 0 by grind) with c | c
 ·have:=mnn (show 0<=u by grind) c
  grind
 ·exact c
theorem same_sign {a b:Rat} (h:0 < a*b):(a < 0/\b < 0)\/(0 < a/\0 < b):=by
 rcases (show a < 0\/a=0\/0 < a by grind) with c | c | c
 ·rcases (show 0<=b\/b < 0 by grind) with d | d
  ·have:=mpn (show a<=0 by grind) d
   grind
  ·exact .inl ⟨c,d⟩
 ·rw [c,Rat.zero_mul] at h
  grind
 ·exact .inr ⟨c,pos_of_mul c h⟩
theorem core {ya yb yp yq A B α β:Rat} (h1:ya < yb) (h2:yp < yq) (I1:(yb - yp)*A+(yp - ya)*B=-((yq - yp) * α)) (I2:(yb - yq)*A+(yq - ya)*B=-((yq - yp) * β)) (nt:0 < α * β\/0 < A*B\/(A=0/\B=0)) :
  (if ya<=yp/\yp < yb then (if α < 0 then 1 else 0) else 0:Int) - (if ya<=yq/\yq < yb then (if β < 0 then 1 else 0) else 0)=(if yp < yb/\yb<=yq/\0 < B then 1 else 0) - (if yp < ya/\ya<=yq/\0 < A then 1 else 0):=by
 have hD:0 < yq - yp:=by grind
 have sα:α < 0->0 < -((yq - yp) * α):=fun h=>by
  have:=Rat.mul_pos hD (show 0 < -α by grind)
  grind
 have sα':0 < α->-((yq - yp) * α) < 0:=fun h=>by
  have:=Rat.mul_pos hD h
  grind
 have sβ:β < 0->0 < -((yq - yp) * β):=fun h=>by
  have:=Rat.mul_pos hD (show 0 < -β by grind)
  grind
 have sβ':0 < β->-((yq - yp) * β) < 0:=fun h=>by
  have:=Rat.mul_pos hD h
  grind
 have zA:A=0/\B=0->α=0/\β=0:=fun ⟨e1,e2⟩=>by
  rw [e1,e2] at I1 I2
  constructor
  ·rcases (show α < 0\/α=0\/0 < α by grind) with c | c | c
   ·have:=sα c
    grind
   ·exact c
   ·have:=sα' c
    grind
  ·rcases (show β < 0\/β=0\/0 < β by grind) with c | c | c
   ·have:=sβ c
    grind
   ·exact c
   ·have:=sβ' c
    grind
 rcases (show yb<=yp\/yp < yb by grind) with c | c
 ·rw [if_neg (by grind),if_neg (by grind),if_neg (by grind),if_neg (by grind)]
 rcases (show yq < ya\/ya<=yq by grind) with d | d
 ·rw [if_neg (by grind),if_neg (by grind),if_neg (by grind),if_neg (by grind)]
 rcases (show ya<=yp\/yp < ya by grind) with e | e
 · rcases (show yb ≤ yq ∨ yq < yb by grind) with f | f
   · -- α < 0 iff 0 < B
     have key:α < 0↔0 < B:=by
       rcases nt with n | n | n
       · rcases same_sign n with ⟨n1,n2⟩ | ⟨n1,n2⟩
         · refine ⟨fun _=>?_,fun _=>n1⟩
           rcases (show B<=0\/0 < B by grind) with g | g
           · have t1:=mnp (show 0<=yp - ya by grind) g
             have t2:=sα n1
             have t3:0 < A:=pos_of_mul (show 0 < yb - yp by grind) (by grind)
             have t4:=mpn (show yb - yq<=0 by grind) (show 0<=A by grind)
             have t5:=mnp (show 0<=yq - ya by grind) g
             have t6:=sβ n2
             grind
           · exact g
         · refine ⟨fun z=>absurd z (by grind),fun g=>?_⟩
           have t1:=mnn (show 0<=yp - ya by grind) (show 0<=B by grind)
           have t2:=sα' n1
           have t3:A < 0:=neg_of_mul' (show 0 < yb - yp by grind) (by grind)
           have t4:=mpp (show yb - yq<=0 by grind) (show A<=0 by grind)
           have t5:=mnn (show 0<=yq - ya by grind) (show 0<=B by grind)
           have t6:=sβ' n2
           grind
       · rcases same_sign n with ⟨n1,n2⟩ | ⟨n1,n2⟩
         · refine ⟨fun z=>?_,fun z=>absurd z (by grind)⟩
           have t1:=mnp (show 0<=yp - ya by grind) (show B<=0 by grind)
           have t2:=mnp (show 0<=yb - yp by grind) (show A<=0 by grind)
           have t3:=sα z
           grind
         · refine ⟨fun _=>n2,fun _=>?_⟩
           have t1:=mnn (show 0<=yp - ya by grind) (show 0<=B by grind)
           have t2:=Rat.mul_pos (show 0 < yb - yp by grind) n1
           rcases (show 0<=α\/α < 0 by grind) with g | g
           · have:=mnn (show 0<=yq - yp by grind) g
             grind
           · exact g
       · have:=zA n
         grind
     rw [if_pos ⟨e,c⟩,if_neg (show ¬ (ya<=yq/\yq < yb) by grind),if_neg (show ¬ (yp < ya/\ya<=yq/\0 < A) by grind)]
     by_cases z:α < 0
     · rw [if_pos z,if_pos ⟨c,f,key.mp z⟩]
     · rw [if_neg z,if_neg fun w=>z (key.mpr w.2.2)]
   · have key:α < 0↔β < 0:=by
       rcases nt with n | n | n
       · rcases same_sign n with ⟨n1,n2⟩ | ⟨n1,n2⟩
         · exact ⟨fun _=>n2,fun _=>n1⟩
         · exact ⟨fun z=>absurd z (by grind),fun z=>absurd z (by grind)⟩
       · rcases same_sign n with ⟨n1,n2⟩ | ⟨n1,n2⟩
         · have t1:=mnp (show 0<=yp - ya by grind) (show B<=0 by grind)
           have t2:=mnp (show 0<=yb - yp by grind) (show A<=0 by grind)
           have t3:=mnp (show 0<=yq - ya by grind) (show B<=0 by grind)
           have t4:=mnp (show 0<=yb - yq by grind) (show A<=0 by grind)
           exact ⟨fun z=>absurd (sα z) (by grind),fun z=>absurd (sβ z) (by grind)⟩
         · have t1:=mnn (show 0<=yp - ya by grind) (show 0<=B by grind)
           have t2:=Rat.mul_pos (show 0 < yb - yp by grind) n1
           have t3:=mnn (show 0<=yq - ya by grind) (show 0<=B by grind)
           have t4:=Rat.mul_pos (show 0 < yb - yq by grind) n1
           have a1:α < 0:=by
             rcases (show 0<=α\/α < 0 by grind) with g | g
             · have:=mnn (show 0<=yq - yp by grind) g
               grind
             · exact g
           have a2:β < 0:=by
             rcases (show 0<=β\/β < 0 by grind) with g | g
             · have:=mnn (show 0<=yq - yp by grind) g
               grind
             · exact g
           exact ⟨fun _=>a2,fun _=>a1⟩
       · have:=zA n
         grind
     rw [if_pos (show ya<=yp/\yp < yb from ⟨e,c⟩),if_pos (show ya<=yq/\yq < yb from ⟨d,f⟩),if_neg (show ¬ (yp < yb/\yb<=yq/\0 < B) by grind),if_neg (show ¬ (yp < ya/\ya<=yq/\0 < A) by grind)]
     by_cases z:α < 0
     · rw [if_pos z,if_pos (key.mp z)]
       rfl
     · rw [if_neg z,if_neg fun w=>z (key.mpr w)]
 · rcases (show yb ≤ yq ∨ yq < yb by grind) with f | f
   · have key:0 < A↔0 < B:=by
       rcases nt with n | n | n
       · rcases same_sign n with ⟨n1,n2⟩ | ⟨n1,n2⟩
         · constructor
           · intro g
             rcases (show B<=0\/0 < B by grind) with w | w
             · have t4:=mpn (show yb - yq<=0 by grind) (show 0<=A by grind)
               have t5:=mnp (show 0<=yq - ya by grind) w
               have:=sβ n2
               grind
             · exact w
           · intro g
             rcases (show A<=0\/0 < A by grind) with w | w
             · have t4:=mnp (show 0<=yb - yp by grind) w
               have t5:=mpn (show yp - ya<=0 by grind) (show 0<=B by grind)
               have:=sα n1
               grind
             · exact w
         · constructor
           · intro g
             rcases (show B<=0\/0 < B by grind) with w | w
             · have t4:=mnn (show 0<=yb - yp by grind) (show 0<=A by grind)
               have t5:=mpp (show yp - ya<=0 by grind) w
               have:=sα' n1
               grind
             · exact w
           · intro g
             rcases (show A<=0\/0 < A by grind) with w | w
             · have t4:=mpp (show yb - yq<=0 by grind) w
               have t5:=mnn (show 0<=yq - ya by grind) (show 0<=B by grind)
               have:=sβ' n2
               grind
             · exact w
       · rcases same_sign n with ⟨n1,n2⟩ | ⟨n1,n2⟩
         · exact ⟨fun z=>absurd z (by grind),fun z=>absurd z (by grind)⟩
         · exact ⟨fun _=>n2,fun _=>n1⟩
       · grind
     rw [if_neg (show ¬ (ya<=yp/\yp < yb) by grind),if_neg (show ¬ (ya<=yq/\yq < yb) by grind)]
     by_cases z:0 < A
     · rw [if_pos (show yp < yb/\yb<=yq/\0 < B from ⟨c,f,key.mp z⟩),if_pos (show yp < ya/\ya<=yq/\0 < A from ⟨e,d,z⟩)]
       rfl
     · rw [if_neg (show ¬ (yp < yb/\yb<=yq/\0 < B) from fun w=>z (key.mpr w.2.2)),if_neg (show ¬ (yp < ya/\ya<=yq/\0 < A) from fun w=>z w.2.2)]
   · have key:β < 0↔0 < A:=by
       rcases nt with n | n | n
       · rcases same_sign n with ⟨n1,n2⟩ | ⟨n1,n2⟩
         · refine ⟨fun _=>?_,fun _=>n2⟩
           rcases (show A<=0\/0 < A by grind) with g | g
           · have t1:=mnp (show 0<=yb - yq by grind) g
             have t2:=sβ n2
             have t3:0 < (yq - ya)*B:=by grind
             have t3':0 < B:=by
               rcases (show B<=0\/0 < B by grind) with w | w
               · have:=mnp (show 0<=yq - ya by grind) w
                 grind
               · exact w
             have t4:=mnp (show 0<=yb - yp by grind) g
             have t5:=mpn (show yp - ya<=0 by grind) (show 0<=B by grind)
             have t6:=sα n1
             grind
           · exact g
         · refine ⟨fun z=>absurd z (by grind),fun g=>?_⟩
           have t1:=mnn (show 0<=yb - yq by grind) (show 0<=A by grind)
           have t2:=sβ' n2
           have t3:(yq - ya)*B < 0:=by grind
           have t3':B < 0:=by
             rcases (show 0<=B\/B < 0 by grind) with w | w
             · have:=mnn (show 0<=yq - ya by grind) w
               grind
             · exact w
           have t4:=mnn (show 0<=yb - yp by grind) (show 0<=A by grind)
           have t5:=mpp (show yp - ya<=0 by grind) (show B<=0 by grind)
           have t6:=sα' n1
           grind
       · rcases same_sign n with ⟨n1,n2⟩ | ⟨n1,n2⟩
         · refine ⟨fun z=>?_,fun z=>absurd z (by grind)⟩
           have t1:=mnp (show 0<=yq - ya by grind) (show B<=0 by grind)
           have t2:=mnp (show 0<=yb - yq by grind) (show A<=0 by grind)
           have t3:=sβ z
           grind
         · refine ⟨fun _=>n1,fun _=>?_⟩
           have t1:=mnn (show 0<=yq - ya by grind) (show 0<=B by grind)
           have t2:=Rat.mul_pos (show 0 < yb - yq by grind) n1
           rcases (show 0<=β\/β < 0 by grind) with g | g
           · have:=mnn (show 0<=yq - yp by grind) g
             grind
           · exact g
       · have:=zA n
         grind
     rw [if_neg (show ¬ (ya<=yp/\yp < yb) by grind),if_pos ⟨d,f⟩,if_neg (show ¬ (yp < yb/\yb<=yq/\0 < B) by grind)]
     by_cases z:β < 0
     · rw [if_pos z,if_pos ⟨e,d,key.mp z⟩]
     · rw [if_neg z,if_neg fun w=>z (key.mpr w.2.2)]
def lfR (ax ay bx by_ X Y:Rat):Rat:=(bx - ax)*(Y - ay) - (by_ - ay)*(X - ax)
def cw (ax ay bx by_ X Y:Rat):Int:=if ay<=Y/\Y < by_ then (if lfR ax ay bx by_ X Y < 0 then 1 else 0) else if by_<=Y/\Y < ay then (if 0 < lfR ax ay bx by_ X Y then -1 else 0) else 0
def rho (px py qx qy vx vy:Rat):Int:=if py < vy/\vy<=qy/\0 < lfR px py qx qy vx vy then 1 else 0
theorem lfR_swap (ax ay bx by_ X Y:Rat):lfR bx by_ ax ay X Y=- lfR ax ay bx by_ X Y:=by
 unfold lfR
 grind
theorem cw_swap (ax ay bx by_ X Y:Rat):cw bx by_ ax ay X Y=- cw ax ay bx by_ X Y:=by
 unfold cw
 rw [lfR_swap]
 generalize lfR ax ay bx by_ X Y=L
 by_cases c:ay<=Y/\Y < by_
 ·rw [if_pos c,if_neg (by grind),if_pos c]
  by_cases d:L < 0
  ·rw [if_pos d,if_pos (by grind)]
  ·rw [if_neg d,if_neg (by grind)]
   rfl
 · by_cases d : by_ ≤ Y ∧ Y < ay
   · rw [if_pos d,if_neg c,if_pos d]
     by_cases e:0 < L
     · rw [if_pos e,if_pos (by grind)]
       rfl
     · rw [if_neg e,if_neg (by grind)]
       rfl
   · rw [if_neg d,if_neg c,if_neg c,if_neg d]
     rfl
def Nt (ax ay bx by_ px py qx qy:Rat):Prop:=0 < lfR ax ay bx by_ px py*lfR ax ay bx by_ qx qy\/0 < lfR px py qx qy ax ay*lfR px py qx qy bx by_\/(lfR px py qx qy ax ay=0/\lfR px py qx qy bx by_=0)
theorem Nt.swap {ax ay bx by_ px py qx qy:Rat} (h:Nt ax ay bx by_ px py qx qy):Nt bx by_ ax ay px py qx qy:=by
 unfold Nt at *
 rw [lfR_swap ax ay bx by_,lfR_swap ax ay bx by_]
 rcases h with h | h | h
 ·exact .inl (by grind)
 ·exact .inr (.inl (by grind))
 ·exact .inr (.inr ⟨h.2,h.1⟩)
theorem edge_up {ax ay bx by_ px py qx qy:Rat} (h:ay < by_) (hp:py < qy) (nt:Nt ax ay bx by_ px py qx qy):cw ax ay bx by_ px py - cw ax ay bx by_ qx qy=rho px py qx qy bx by_ - rho px py qx qy ax ay:=by
 have k:=core (ya:=ay) (yb:=by_) (yp:=py) (yq:=qy) (A:=lfR px py qx qy ax ay) (B:=lfR px py qx qy bx by_) (α:=lfR ax ay bx by_ px py) (β:=lfR ax ay bx by_ qx qy) h hp (by unfold lfR; grind) (by unfold lfR; grind) nt
 unfold cw rho
 rw [if_neg (show ¬ (by_<=py/\py < ay) by grind),if_neg (show ¬ (by_<=qy/\qy < ay) by grind)]
 exact k
theorem edge_flat {ax ay bx by_ px py qx qy:Rat} (h:ay=by_) (hp:py < qy) (nt:Nt ax ay bx by_ px py qx qy):cw ax ay bx by_ px py - cw ax ay bx by_ qx qy=rho px py qx qy bx by_ - rho px py qx qy ax ay:=by
 subst h
 unfold cw
 rw [if_neg (show ¬ (ay<=py/\py < ay) by grind),if_neg (show ¬ (ay<=py/\py < ay) by grind),if_neg (show ¬ (ay<=qy/\qy < ay) by grind),if_neg (show ¬ (ay<=qy/\qy < ay) by grind)]
 unfold rho
 by_cases c:py < ay/\ay<=qy
 ·have I1:lfR ax ay bx ay px py=(bx - ax)*(py - ay):=by unfold lfR; grind
  have I2:lfR ax ay bx ay qx qy=(bx - ax)*(qy - ay):=by unfold lfR; grind
  have I3:lfR px py qx qy ax ay - lfR px py qx qy bx ay=(qy - py)*(bx - ax):=by unfold lfR; grind
  have key:0 < lfR px py qx qy ax ay↔0 < lfR px py qx qy bx ay:=by
   unfold Nt at nt
   rcases nt with n | n | n
   ·rw [I1,I2] at n
    have e:(bx - ax)*(py - ay)*((bx - ax)*(qy - ay))=((bx - ax)*(bx - ax))*((py - ay)*(qy - ay)):=by grind
    rw [e] at n
    have s1:0<=(bx - ax)*(bx - ax):=by
     rcases (show bx - ax<=0\/0<=bx - ax by grind) with z | z
     ·exact mpp z z
     ·exact mnn z z
    have s2:=mpn (show py - ay<=0 by grind) (show 0<=qy - ay by grind)
    have:=mnp s1 s2
    grind
   ·rcases same_sign n with ⟨n1,n2⟩ | ⟨n1,n2⟩
    ·exact ⟨fun z=>absurd z (by grind),fun z=>absurd z (by grind)⟩
    ·exact ⟨fun _=>n2,fun _=>n1⟩
   ·grind
  by_cases z:0 < lfR px py qx qy ax ay
  ·rw [if_pos (show py < ay/\ay<=qy/\0 < lfR px py qx qy bx ay from ⟨c.1,c.2,key.mp z⟩),if_pos (show py < ay/\ay<=qy/\0 < lfR px py qx qy ax ay from ⟨c.1,c.2,z⟩)]
   rfl
  ·rw [if_neg (show ¬ (py < ay/\ay<=qy/\0 < lfR px py qx qy bx ay) from fun w=>z (key.mpr w.2.2)),if_neg (show ¬ (py < ay/\ay<=qy/\0 < lfR px py qx qy ax ay) from fun w=>z w.2.2)]
 ·rw [if_neg (fun w=>c ⟨w.1,w.2.1⟩),if_neg (fun w=>c ⟨w.1,w.2.1⟩)]
theorem edge_any {ax ay bx by_ px py qx qy:Rat} (hp:py < qy) (nt:Nt ax ay bx by_ px py qx qy):cw ax ay bx by_ px py - cw ax ay bx by_ qx qy=rho px py qx qy bx by_ - rho px py qx qy ax ay:=by
 rcases (show ay < by_\/ay=by_\/by_ < ay by grind) with c | c | c
 ·exact edge_up c hp nt
 ·exact edge_flat c hp nt
 ·have k:=edge_up c hp nt.swap
  rw [cw_swap ax ay bx by_ px py,cw_swap ax ay bx by_ qx qy] at k
  omega
theorem edge_level' {ax ay bx by_ px qx Y:Rat} (nt:Nt ax ay bx by_ px Y qx Y):cw ax ay bx by_ px Y=cw ax ay bx by_ qx Y:=by
 have key:∀ {ax ay bx by_:Rat},Nt ax ay bx by_ px Y qx Y->ay<=Y->Y < by_->(lfR ax ay bx by_ px Y < 0↔lfR ax ay bx by_ qx Y < 0):=fun {ax ay bx by_} nt h1 h2=>by
  have I1:lfR px Y qx Y ax ay=(qx - px)*(ay - Y):=by unfold lfR; grind
  have I2:lfR px Y qx Y bx by_=(qx - px)*(by_ - Y):=by unfold lfR; grind
  unfold Nt at nt
  rcases nt with n | n | n
  ·rcases same_sign n with ⟨n1,n2⟩ | ⟨n1,n2⟩
   ·exact ⟨fun _=>n2,fun _=>n1⟩
   ·exact ⟨fun z=>absurd z (by grind),fun z=>absurd z (by grind)⟩
  ·rw [I1,I2] at n
   have e:(qx - px)*(ay - Y)*((qx - px)*(by_ - Y))=((qx - px)*(qx - px))*((ay - Y)*(by_ - Y)):=by grind
   rw [e] at n
   have s1:0<=(qx - px)*(qx - px):=by
    rcases (show qx - px<=0\/0<=qx - px by grind) with z | z
    ·exact mpp z z
    ·exact mnn z z
   have s2:=mpn (show ay - Y<=0 by grind) (show 0<=by_ - Y by grind)
   have:=mnp s1 s2
   grind
  ·have n2:=n.2
   rw [I2] at n2
   have:qx - px=0:=by
    rcases Rat.mul_eq_zero.mp n2 with z | z
    ·exact z
    ·grind
   have:qx=px:=by grind
   rw [this]
 rcases (show ay < by_\/ay=by_\/by_ < ay by grind) with c | c | c
 ·unfold cw
  rw [if_neg (show ¬ (by_<=Y/\Y < ay) by grind),if_neg (show ¬ (by_<=Y/\Y < ay) by grind)]
  by_cases z:ay<=Y/\Y < by_
  ·rw [if_pos z,if_pos z]
   have k:=key nt z.1 z.2
   by_cases y:lfR ax ay bx by_ px Y < 0
   ·rw [if_pos y,if_pos (k.mp y)]
   ·rw [if_neg y,if_neg fun w=>y (k.mpr w)]
  ·rw [if_neg z,if_neg z]
 ·subst c
  unfold cw
  rw [if_neg (show ¬ (ay<=Y/\Y < ay) by grind),if_neg (show ¬ (ay<=Y/\Y < ay) by grind),if_neg (show ¬ (ay<=Y/\Y < ay) by grind),if_neg (show ¬ (ay<=Y/\Y < ay) by grind)]
 ·have k:=key nt.swap
  have e1:=cw_swap ax ay bx by_ px Y
  have e2:=cw_swap ax ay bx by_ qx Y
  have:cw bx by_ ax ay px Y=cw bx by_ ax ay qx Y:=by
   unfold cw
   rw [if_neg (show ¬ (ay<=Y/\Y < by_) by grind),if_neg (show ¬ (ay<=Y/\Y < by_) by grind)]
   by_cases z:by_<=Y/\Y < ay
   ·rw [if_pos z,if_pos z]
    have k:=k z.1 z.2
    by_cases y:lfR bx by_ ax ay px Y < 0
    ·rw [if_pos y,if_pos (k.mp y)]
    ·rw [if_neg y,if_neg fun w=>y (k.mpr w)]
   ·rw [if_neg z,if_neg z]
  omega
end Wm
namespace Wm
open Eh
def OnQ (ax ay bx by_ X Y:Rat):Prop:=∃ t:Rat,0<=t/\t<=1/\X=ax+t*(bx - ax)/\Y=ay+t*(by_ - ay)
theorem lf_at {ax ay bx by_ px py qx qy t:Rat}:lfR ax ay bx by_ (px+t*(qx - px)) (py+t*(qy - py))=(1 - t)*lfR ax ay bx by_ px py+t*lfR ax ay bx by_ qx qy:=by
 unfold lfR
 grind
theorem lf_on {ax ay bx by_ X Y:Rat} (h:OnQ ax ay bx by_ X Y):lfR ax ay bx by_ X Y=0:=by
 obtain ⟨t,_,_,rfl,rfl⟩:=h
 unfold lfR
 grind
theorem lf_diff (ax ay bx by_ px py qx qy:Rat):lfR ax ay bx by_ px py - lfR ax ay bx by_ qx qy=-(lfR px py qx qy ax ay - lfR px py qx qy bx by_):=by
 unfold lfR
 grind
theorem part_of {a b:Rat} (h:a*b<=0) (hne:a≠b):∃ t:Rat,0<=t/\t<=1/\(1 - t)*a+t*b=0/\t*(a - b)=a:=by
 have hd:a - b≠0:=by grind
 have k:=(frac_within hne).mpr h
 refine ⟨a / (a - b),k.1,k.2,?_,?_⟩
 ·have:a / (a - b)*(a - b)=a:=Rat.div_mul_cancel hd
  grind
 ·exact Rat.div_mul_cancel hd
theorem mul_cancel {d a b:Rat} (h:d≠0) (e:d*a=d*b):a=b:=by
 have:d*(a - b)=0:=by grind
 rcases Rat.mul_eq_zero.mp this with z | z
 ·exact absurd z h
 ·grind
theorem nt_of {ax ay bx by_ px py qx qy:Rat} (h:∀ X Y,OnQ ax ay bx by_ X Y->OnQ px py qx qy X Y->False):Nt ax ay bx by_ px py qx qy:=by
 unfold Nt
 rcases (show 0 < lfR ax ay bx by_ px py*lfR ax ay bx by_ qx qy\/lfR ax ay bx by_ px py*lfR ax ay bx by_ qx qy<=0 by grind) with c | c
 ·exact .inl c
 rcases (show 0 < lfR px py qx qy ax ay*lfR px py qx qy bx by_\/lfR px py qx qy ax ay*lfR px py qx qy bx by_<=0 by grind) with d | d
 ·exact .inr (.inl d)
 have df:=lf_diff ax ay bx by_ px py qx qy
 by_cases e:lfR px py qx qy ax ay=lfR px py qx qy bx by_
 ·refine .inr (.inr ?_)
  rw [e] at d
  have:lfR px py qx qy bx by_=0:=by
   rcases (show lfR px py qx qy bx by_ < 0\/lfR px py qx qy bx by_=0\/0 < lfR px py qx qy bx by_ by grind) with z | z | z
   ·have:=Rat.mul_pos (show 0 < -lfR px py qx qy bx by_ by grind) (show 0 < -lfR px py qx qy bx by_ by grind)
    grind
   ·exact z
   ·have:=Rat.mul_pos z z
    grind
  exact ⟨by rw [e]; exact this,this⟩
 ·exfalso
  have e':lfR ax ay bx by_ px py≠lfR ax ay bx by_ qx qy:=by grind
  obtain ⟨s,s0,s1,s2,s3⟩:=part_of d e
  obtain ⟨t,t0,t1,t2,t3⟩:=part_of c e'
  have D:lfR ax ay bx by_ px py - lfR ax ay bx by_ qx qy≠0:=by grind
  refine h (ax+s*(bx - ax)) (ay+s*(by_ - ay)) ⟨s,s0,s1,rfl,rfl⟩ ⟨t,t0,t1,?_,?_⟩
  ·have:(lfR ax ay bx by_ px py - lfR ax ay bx by_ qx qy)*(ax+s*(bx - ax))=(lfR ax ay bx by_ px py - lfR ax ay bx by_ qx qy)*(px+t*(qx - px)):=by
    have e1:(lfR ax ay bx by_ px py - lfR ax ay bx by_ qx qy)*(t*(qx - px))=lfR ax ay bx by_ px py*(qx - px):=by grind
    have e2:(lfR ax ay bx by_ px py - lfR ax ay bx by_ qx qy)*(s*(bx - ax))=-(lfR px py qx qy ax ay)*(bx - ax):=by grind
    have e3:(lfR ax ay bx by_ px py - lfR ax ay bx by_ qx qy)*ax + -(lfR px py qx qy ax ay)*(bx - ax)=(lfR ax ay bx by_ px py - lfR ax ay bx by_ qx qy)*px+lfR ax ay bx by_ px py*(qx - px):=by
     unfold lfR
     grind
    grind
   exact mul_cancel D this
  ·have:(lfR ax ay bx by_ px py - lfR ax ay bx by_ qx qy)*(ay+s*(by_ - ay))=(lfR ax ay bx by_ px py - lfR ax ay bx by_ qx qy)*(py+t*(qy - py)):=by
    have e1:(lfR ax ay bx by_ px py - lfR ax ay bx by_ qx qy)*(t*(qy - py))=lfR ax ay bx by_ px py*(qy - py):=by grind
    have e2:(lfR ax ay bx by_ px py - lfR ax ay bx by_ qx qy)*(s*(by_ - ay))=-(lfR px py qx qy ax ay)*(by_ - ay):=by grind
    have e3:(lfR ax ay bx by_ px py - lfR ax ay bx by_ qx qy)*ay + -(lfR px py qx qy ax ay)*(by_ - ay)=(lfR ax ay bx by_ px py - lfR ax ay bx by_ qx qy)*py+lfR ax ay bx by_ px py*(qy - py):=by
     unfold lfR
     grind
    grind
   exact mul_cancel D this
abbrev OnE (a b:Corner) (X Y:Rat):Prop:=OnQ a.x a.y b.x b.y X Y
theorem lfC (a b p:Corner):lfR a.x a.y b.x b.y p.x p.y=((leftC a b p:Int):Rat):=by
 unfold lfR leftC
 simp
theorem on_range {a b t X:Rat} (h0:0<=t) (h1:t<=1) (e:X=a+t*(b - a)):min a b<=X/\X<=max a b:=by
 subst e
 rcases (show a<=b\/b<=a by grind) with c | c
 ·have k1:=mnn h0 (show 0<=b - a by grind)
  have k2:=mnn (show 0<=1 - t by grind) (show 0<=b - a by grind)
  constructor <;> grind
 ·have k1:=mnp h0 (show b - a<=0 by grind)
  have k2:=mnp (show 0<=1 - t by grind) (show b - a<=0 by grind)
  constructor <;> grind
theorem opp_of {t a b:Rat} (h0:0<=t) (h1:t<=1) (e:(1 - t)*a+t*b=0):a*b<=0:=by
 rcases (show a*b<=0\/0 < a*b by grind) with c | c
 ·exact c
 ·rcases same_sign c with ⟨n1,n2⟩ | ⟨n1,n2⟩
  ·have k1:=mnp (show 0<=1 - t by grind) (show a<=0 by grind)
   have k2:=mnp h0 (show b<=0 by grind)
   rcases (show t=0\/0 < t by grind) with z | z
   ·rw [z] at e
    grind
   ·have:=Rat.mul_pos z (show 0 < -b by grind)
    grind
  ·have k1:=mnn (show 0<=1 - t by grind) (show 0<=a by grind)
   have k2:=mnn h0 (show 0<=b by grind)
   rcases (show t=0\/0 < t by grind) with z | z
   ·rw [z] at e
    grind
   ·have:=Rat.mul_pos z n2
    grind
theorem meet_of {a b c d:Corner} {X Y:Rat} (h:OnE a b X Y) (k:OnE c d X Y):meetP a b c d:=by
 have l1:=lf_on h
 have l2:=lf_on k
 obtain ⟨s,s0,s1,sx,sy⟩:=h
 obtain ⟨t,t0,t1,tx,ty⟩:=k
 have x1:=on_range s0 s1 sx
 have x2:=on_range t0 t1 tx
 have y1:=on_range s0 s1 sy
 have y2:=on_range t0 t1 ty
 rw [r_min,r_max] at x1 x2 y1 y2
 have rx:((min a.x b.x:Int):Rat)<=((max c.x d.x:Int):Rat)/\((min c.x d.x:Int):Rat)<=((max a.x b.x:Int):Rat):=by grind
 have ry:((min a.y b.y:Int):Rat)<=((max c.y d.y:Int):Rat)/\((min c.y d.y:Int):Rat)<=((max a.y b.y:Int):Rat):=by grind
 rw [Rat.intCast_le_intCast,Rat.intCast_le_intCast] at rx ry
 refine ⟨(rng_iff _ _ _ _).mpr rx,(rng_iff _ _ _ _).mpr ry,?_,?_⟩
 ·rw [tx,ty,lf_at,lfC,lfC] at l1
  have:=opp_of t0 t1 l1
  rw [← Rat.intCast_mul] at this
  exact_mod_cast this
 ·rw [sx,sy,lf_at,lfC,lfC] at l2
  have:=opp_of s0 s1 l2
  rw [← Rat.intCast_mul] at this
  exact_mod_cast this
theorem bend_of {a b d:Corner} {X Y:Rat} (nb:alongC a b b d=false) (h:OnE a b X Y) (k:OnE b d X Y):X=b.x/\Y=b.y:=by
 obtain ⟨s,s0,s1,sx,sy⟩:=h
 obtain ⟨t,t0,t1,tx,ty⟩:=k
 have D:((b.x:Rat) - a.x)*(d.y - b.y) - (b.y - a.y)*(d.x - b.x)≠0:=by
  unfold alongC at nb
  have:(b.x - a.x)*(d.y - b.y) - (b.y - a.y)*(d.x - b.x)≠0:=by simpa using nb
  intro z
  apply this
  have z:(((b.x - a.x)*(d.y - b.y) - (b.y - a.y)*(d.x - b.x):Int):Rat)=((0:Int):Rat):=by
   simp
   exact z
  exact Rat.intCast_inj.mp z
 have e1:t*(((b.x:Rat) - a.x)*(d.y - b.y) - (b.y - a.y)*(d.x - b.x))=0:=by grind
 have:t=0:=by
  rcases Rat.mul_eq_zero.mp e1 with z | z
  ·exact z
  ·exact absurd z D
 subst this
 constructor <;> grind
section
variable {P:Nat->Corner} {n:Nat}
theorem Poly.two (h:Poly P n) {i j:Nat} (hi:i < n) (hj:j < n) (hne:i≠j) {X Y:Rat} (o1:OnE (P i) (P (i+1)) X Y) (o2:OnE (P j) (P (j+1)) X Y) :
  ((i+1) % n=j/\X=(P (i+1)).x/\Y=(P (i+1)).y)\/((j+1) % n=i/\X=(P (j+1)).x/\Y=(P (j+1)).y):=by
 by_cases c1:(i+1) % n=j
 ·refine .inl ⟨c1,?_⟩
  have e1:P j=P (i+1):=by rw [← c1,h.mod]
  have e2:P (j+1)=P (i+2):=by rw [← c1,h.mod1]
  rw [e1,e2] at o2
  exact bend_of (h.bend i) o1 o2
 · by_cases c2 : (j + 1) % n = i
   · refine .inr ⟨c2,?_⟩
     have e1:P i=P (j+1):=by rw [← c2,h.mod]
     have e2:P (i+1)=P (j+2):=by rw [← c2,h.mod1]
     rw [e1,e2] at o1
     exact bend_of (h.bend j) o2 o1
   · exfalso
     have nb:neighbours n i j=false:=by
       unfold neighbours
       simp [hne,c1,c2]
     have:=h.apart i j hi hj nb
     have m:=(meetC_iff (h.dir i) (h.dir j)).mpr (meet_of o1 o2)
     rw [this] at m
     cases m
end
end Wm
namespace Wm
open Eh
abbrev cwP (P:Nat->Corner) (j:Nat) (X Y:Rat):Int:=cw (P j).x (P j).y (P (j+1)).x (P (j+1)).y X Y
def SP (P:Nat->Corner) (n:Nat) (X Y:Rat):Int:=sm (fun j=>cwP P j X Y) n
abbrev lfP (P:Nat->Corner) (j:Nat) (X Y:Rat):Rat:=lfR (P j).x (P j).y (P (j+1)).x (P (j+1)).y X Y
abbrev OnP (P:Nat->Corner) (j:Nat) (X Y:Rat):Prop:=OnE (P j) (P (j+1)) X Y
abbrev rhoP (P:Nat->Corner) (px py qx qy:Rat) (j:Nat):Int:=rho px py qx qy (P j).x (P j).y
def Off (P:Nat->Corner) (j:Nat) (px py qx qy:Rat):Prop:=∀ X Y,OnP P j X Y->OnQ px py qx qy X Y->False
theorem OnQ.swap {ax ay bx by_ X Y:Rat} (h:OnQ ax ay bx by_ X Y):OnQ bx by_ ax ay X Y:=by
 obtain ⟨t,t0,t1,rfl,rfl⟩:=h
 exact ⟨1 - t,by grind,by grind,by grind,by grind⟩
theorem Off.swap {P:Nat->Corner} {j:Nat} {px py qx qy:Rat} (h:Off P j px py qx qy):Off P j qx qy px py:=fun X Y a b=>h X Y a b.swap
section
variable {P:Nat->Corner} {n:Nat}
theorem Poly.tele (h:Poly P n) (f:Corner->Int):sm (fun j=>f (P (j+1)) - f (P j)) n=0:=by
 rw [sm_tele (fun j=>f (P j)) n]
 have:=h.per 0
 rw [Nat.zero_add] at this
 rw [this]
 omega
theorem Poly.up_but (h:Poly P n) {w:Nat} (hw:w < n) {px py qx qy:Rat} (hp:py < qy) (off:∀ j,j < n->j≠w->Off P j px py qx qy) :
  SP P n px py - SP P n qx qy=cwP P w px py - cwP P w qx qy - (rhoP P px py qx qy (w+1) - rhoP P px py qx qy w):=by
 unfold SP
 rw [← sm_sub]
 have k:=sm_one (f:=fun j=>cwP P j px py - cwP P j qx qy) (g:=fun j=>rhoP P px py qx qy (j+1) - rhoP P px py qx qy j) (o:=w) hw fun j hj hne=>edge_any hp (nt_of (off j hj hne))
 rw [k,h.tele fun c=>rho px py qx qy c.x c.y]
 omega
theorem Poly.level_but {w:Nat} (hw:w < n) {px qx Y:Rat} (off:∀ j,j < n->j≠w->Off P j px Y qx Y):SP P n px Y - SP P n qx Y=cwP P w px Y - cwP P w qx Y:=by
 unfold SP
 rw [← sm_sub]
 have k:=sm_one (f:=fun j=>cwP P j px Y - cwP P j qx Y) (g:=fun _=>0) (o:=w) hw fun j hj hne=>by
  have e:cwP P j px Y=cwP P j qx Y:=edge_level' (nt_of (off j hj hne))
  show cwP P j px Y - cwP P j qx Y=0
  rw [e]
  omega
 rw [k,sm_zero]
 omega
theorem Poly.still (h:Poly P n) {px py qx qy:Rat} (off:∀ j,j < n->Off P j px py qx qy):SP P n px py=SP P n qx qy:=by
 have up:∀ {px py qx qy:Rat},py < qy->(∀ j,j < n->Off P j px py qx qy)->SP P n px py=SP P n qx qy:=fun {px py qx qy} hp off=>by
  have:SP P n px py - SP P n qx qy=0:=by
   unfold SP
   rw [← sm_sub,sm_congr (g:=fun j=>rhoP P px py qx qy (j+1) - rhoP P px py qx qy j) fun j hj=>edge_any hp (nt_of (off j hj)),h.tele fun c=>rho px py qx qy c.x c.y]
  omega
 rcases (show py < qy\/py=qy\/qy < py by grind) with c | c | c
 ·exact up c off
 ·subst c
  unfold SP
  exact sm_congr fun j hj=>edge_level' (nt_of (off j hj))
 ·exact (up c fun j hj=>(off j hj).swap).symm
theorem half_up {a b:Corner} (d:dirC a b=true) {k m:Int}:cw a.x a.y b.x b.y ((m:Rat) / 2) (k+1 / 2)=if mid a b k < m then sg a b k else 0:=by
 have yk:∀ z:Int,((z:Rat)<=k+1 / 2↔z<=k)/\((k:Rat)+1 / 2 < z↔k < z):=fun z=>by
  have e1:((z:Rat)<=k+1 / 2↔((2*z:Int):Rat)<=((2*k+1:Int):Rat)):=by
   simp
   constructor <;> intro <;> grind
  have e2:((k:Rat)+1 / 2 < z↔((2*k+1:Int):Rat) < ((2*z:Int):Rat)):=by
   simp
   constructor <;> intro <;> grind
  rw [e1,e2,Rat.intCast_le_intCast,Rat.intCast_lt_intCast]
  constructor <;> omega
 have lf:b.y≠a.y->2*lfR a.x a.y b.x b.y ((m:Rat) / 2) (k+1 / 2)=((b.y:Rat) - a.y)*((mid a b k:Int) - m):=fun hne=>by
  unfold lfR mid xe
  rcases forms d with ⟨e,_⟩ | ⟨_,s,e,_⟩ | ⟨_,s,e,_⟩ | ⟨_,s,e,_⟩
  ·exact absurd e hne
  ·rw [s,e]
   simp
   grind
  ·rw [s]
   have e:(b.x:Rat) - a.x=b.y - a.y:=by
    rw [← Rat.intCast_sub,← Rat.intCast_sub,e]
   simp
   grind
  ·rw [s]
   have e:(b.x:Rat) - a.x=-(b.y - a.y):=by
    rw [← Rat.intCast_sub,← Rat.intCast_sub,e,Rat.intCast_neg]
   simp
   grind
 have ml:((mid a b k:Int):Rat) - m < 0↔mid a b k < m:=by
  have:((mid a b k:Int):Rat) - m < 0↔((mid a b k:Int):Rat) < m:=by constructor <;> intro <;> grind
  rw [this,Rat.intCast_lt_intCast]
 unfold cw
 have u1:((a.y:Rat)<=k+1 / 2/\(k:Rat)+1 / 2 < b.y)↔(a.y<=k/\k < b.y):=by rw [(yk a.y).1,(yk b.y).2]
 have u2:((b.y:Rat)<=k+1 / 2/\(k:Rat)+1 / 2 < a.y)↔(b.y<=k/\k < a.y):=by rw [(yk b.y).1,(yk a.y).2]
 by_cases c:a.y<=k/\k < b.y
 ·rw [if_pos (u1.mpr c),sg_up c]
  have hy:(0:Rat) < b.y - a.y:=by
   have:((a.y:Int):Rat) < b.y:=Rat.intCast_lt_intCast.mpr (by omega)
   grind
  have l:=lf (by omega)
  have key:lfR a.x a.y b.x b.y ((m:Rat) / 2) (k+1 / 2) < 0↔mid a b k < m:=by
   rw [← ml]
   constructor
   ·intro z
    exact neg_of_mul' hy (by grind)
   ·intro z
    have:=Rat.mul_pos hy (show 0 < -(((mid a b k:Int):Rat) - m) by grind)
    grind
  by_cases z:mid a b k < m
  ·rw [if_pos (key.mpr z),if_pos z]
  ·rw [if_neg (fun w=>z (key.mp w)),if_neg z]
 ·rw [if_neg (fun z=>c (u1.mp z))]
  by_cases c2:b.y<=k/\k < a.y
  ·rw [if_pos (u2.mpr c2),sg_down c2]
   have hy:(0:Rat) < a.y - b.y:=by
    have:((b.y:Int):Rat) < a.y:=Rat.intCast_lt_intCast.mpr (by omega)
    grind
   have l:=lf (by omega)
   have key:0 < lfR a.x a.y b.x b.y ((m:Rat) / 2) (k+1 / 2)↔mid a b k < m:=by
    rw [← ml]
    constructor
    ·intro z
     exact neg_of_mul' hy (by grind)
    ·intro z
     have:=Rat.mul_pos hy (show 0 < -(((mid a b k:Int):Rat) - m) by grind)
     grind
   by_cases z:mid a b k < m
   ·rw [if_pos (key.mpr z),if_pos z]
   ·rw [if_neg (fun w=>z (key.mp w)),if_neg z]
  ·rw [if_neg (fun z=>c2 (u2.mp z))]
   have:sg a b k=0:=by
    unfold sg
    rw [if_neg c,if_neg c2]
   rw [this]
   simp
theorem Poly.half (h:Poly P n) (k m:Int):SP P n ((m:Rat) / 2) (k+1 / 2)=westP P n k m:=by
 unfold SP westP west
 exact sm_congr fun j _=>half_up (h.dir j)
theorem Poly.lfE_neg (h:Poly P n) (hx:∀ i,0<=(P i).x/\(P i).x<=4095) (hy:∀ i,0<=(P i).y/\(P i).y<=4095) (ha:0 < sm (fun i=>(P i).x*(P (i+1)).y - (P (i+1)).x*(P i).y) n):lfE P n 0=-1:=by
 have z:P n=P 0:=by
  have:=h.per 0
  rw [Nat.zero_add] at this
  exact this
 have e1:sm (fun i=>(P i).x*(P (i+1)).y - (P (i+1)).x*(P i).y) n=sm (fun j=>sm (fun k=>sgP P j k*midP P j k) 4096) n:=by
  have t:=sm_tele (fun i=>(P i).x*(P i).y) n
  have a:=sm_add (fun i=>(P i).x*(P (i+1)).y - (P (i+1)).x*(P i).y) (fun i=>(P (i+1)).x*(P (i+1)).y - (P i).x*(P i).y) n
  rw [t,z,Int.sub_self,Int.add_zero] at a
  rw [← a]
  refine sm_congr fun j _=>?_
  have:=edge_area (h.dir j) (hy j) (hy (j+1))
  show _=sm (fun k=>sg (P j) (P (j+1)) k*mid (P j) (P (j+1)) k) 4096
  rw [this]
  generalize (P j).x=a
  generalize (P j).y=b
  generalize (P (j+1)).x=c
  generalize (P (j+1)).y=d
  grind
 rw [e1,sm_swap] at ha
 clear e1
 generalize hN:(4096:Nat)=N at ha
 have n3:=h.n3
 obtain ⟨i0,hi0,ne0⟩:∃ i,i < n/\(P (i+1)).y≠(P i).y:=by
  by_cases c:(P (0+1)).y=(P 0).y
  ·exact ⟨1,by omega,h.flat_next c⟩
  ·exact ⟨0,by omega,c⟩
 have o:=out_ok ne0
 have s0:sgP P i0 (kf (P i0) (P (i0+1)))≠0:=by
  show sg (P i0) (P (i0+1)) _≠0
  omega
 have L:=h.lev hx
 have m0:=mid_in (h.dir i0) (hx i0) (hx (i0+1)) s0
 have hc:lfE P n 0=0\/lfE P n 0=-1:=(L (kf (P i0) (P (i0+1)))).c01 10000 i0 hi0 s0 (by
  show midP P i0 _<=_
  have:midP P i0 (kf (P i0) (P (i0+1))) < 10000:=m0.2
  omega)
 rcases hc with c | c
 ·exfalso
  have key:∀ k:Nat,_:=fun k:Nat=>(L k).sum (.inl c) (M:=10000) (fun j hj hs=>(mid_in (h.dir j) (hx j) (hx (j+1)) hs).2) (h.tot k)
  have le:∀ k:Nat,k < N->0<=- sm (fun j=>sgP P j (k:Int)*midP P j (k:Int)) n:=fun k _=>by
   have:=((key k).1 c).1
   omega
  have:=sm_nonneg (f:=fun k:Nat=>- sm (fun j=>sgP P j (k:Int)*midP P j (k:Int)) n) (n:=N) le
  rw [sm_neg (fun k:Nat=>sm (fun j=>sgP P j (k:Int)*midP P j (k:Int)) n)] at this
  omega
 ·exact c
end
end Wm
namespace Wm
open Eh
def OnO (ax ay bx by_ X Y:Rat):Prop:=∃ t:Rat,0 < t/\t < 1/\X=ax+t*(bx - ax)/\Y=ay+t*(by_ - ay)
abbrev InP (P:Nat->Corner) (j:Nat) (X Y:Rat):Prop:=OnO (P j).x (P j).y (P (j+1)).x (P (j+1)).y X Y
theorem OnO.on {ax ay bx by_ X Y:Rat} (h:OnO ax ay bx by_ X Y):OnQ ax ay bx by_ X Y:=by
 obtain ⟨t,t0,t1,e1,e2⟩:=h
 exact ⟨t,by grind,by grind,e1,e2⟩
theorem cw_zero {ax ay bx by_ X Y:Rat} (h:lfR ax ay bx by_ X Y=0):cw ax ay bx by_ X Y=0:=by
 unfold cw
 rw [h,if_neg (show ¬ (0:Rat) < 0 by grind)]
 simp
theorem cw_flat {ax ay bx X Y:Rat}:cw ax ay bx ay X Y=0:=by
 unfold cw
 rw [if_neg (show ¬ (ay<=Y/\Y < ay) by grind),if_neg (show ¬ (ay<=Y/\Y < ay) by grind)]
theorem rho_zero {px py qx qy vx vy:Rat} (h:lfR px py qx qy vx vy=0):rho px py qx qy vx vy=0:=by
 unfold rho
 rw [h,if_neg (show ¬ (py < vy/\vy<=qy/\(0:Rat) < 0) by grind)]
theorem lf_line {ax ay bx by_ px py qx qy:Rat} (hp:OnQ ax ay bx by_ px py) (hq:OnQ ax ay bx by_ qx qy):lfR px py qx qy ax ay=0/\lfR px py qx qy bx by_=0:=by
 obtain ⟨t,_,_,rfl,rfl⟩:=hp
 obtain ⟨u,_,_,rfl,rfl⟩:=hq
 unfold lfR
 constructor <;> grind
theorem OnO.conv {ax ay bx by_ px py qx qy X Y:Rat} (hp:OnO ax ay bx by_ px py) (hq:OnO ax ay bx by_ qx qy) (h:OnQ px py qx qy X Y):OnO ax ay bx by_ X Y:=by
 obtain ⟨t,t0,t1,rfl,rfl⟩:=hp
 obtain ⟨u,u0,u1,rfl,rfl⟩:=hq
 obtain ⟨s,s0,s1,rfl,rfl⟩:=h
 have k1:=mnn (show 0<=1 - s by grind) (show 0<=t by grind)
 have k2:=mnn s0 (show 0<=u by grind)
 have k3:=mnn (show 0<=1 - s by grind) (show 0<=1 - t by grind)
 have k4:=mnn s0 (show 0<=1 - u by grind)
 refine ⟨(1 - s)*t+s*u,?_,?_,by grind,by grind⟩
 ·rcases (show s=0\/0 < s by grind) with z | z
  ·rw [z]
   grind
  ·have:=Rat.mul_pos z u0
   grind
 ·rcases (show s=0\/0 < s by grind) with z | z
  ·rw [z]
   grind
  ·have:=Rat.mul_pos z (show 0 < 1 - u by grind)
   grind
theorem OnO.not_end {ax ay bx by_ X Y:Rat} (h:OnO ax ay bx by_ X Y) (ne:ax≠bx\/ay≠by_):¬ (X=ax/\Y=ay)/\¬ (X=bx/\Y=by_):=by
 obtain ⟨t,t0,t1,rfl,rfl⟩:=h
 have k:∀ {u v:Rat},u≠v->u+t*(v - u)≠u/\u+t*(v - u)≠v:=fun {u v} hne=>by
  constructor
  ·intro e
   have:t*(v - u)=0:=by grind
   rcases Rat.mul_eq_zero.mp this with z | z <;> grind
  ·intro e
   have:(1 - t)*(v - u)=0:=by grind
   rcases Rat.mul_eq_zero.mp this with z | z <;> grind
 rcases ne with ne | ne
 ·exact ⟨fun z=>(k ne).1 z.1,fun z=>(k ne).2 z.1⟩
 ·exact ⟨fun z=>(k ne).1 z.2,fun z=>(k ne).2 z.2⟩
theorem no_end {p q t u:Rat} (t0:0 < t) (t1:t < 1) (u1:u<=1) (hne:p≠q):p+u*(p+t*(q - p) - p)≠q:=fun z=>by
 have k:(1 - u*t)*(q - p)=0:=by grind
 have m:=mnn (show 0<=1 - u by grind) (show 0<=t by grind)
 rcases Rat.mul_eq_zero.mp k with y | y <;> grind
section
variable {P:Nat->Corner} {n:Nat}
theorem Poly.ne (h:Poly P n) (j:Nat):((P j).x:Rat)≠(P (j+1)).x\/((P j).y:Rat)≠(P (j+1)).y:=by
 have d:=h.dir j
 by_cases c:(P j).x=(P (j+1)).x
 ·refine .inr fun z=>?_
  have z:=Rat.intCast_inj.mp z
  unfold dirC at d
  rw [c,z] at d
  simp at d
 ·exact .inl fun z=>c (Rat.intCast_inj.mp z)
theorem Poly.within_one (h:Poly P n) {w j:Nat} (hw:w < n) (hj:j < n) (hne:j≠w) {X Y:Rat} (hp:InP P w X Y) (hq:OnP P j X Y):False:=by
 have ne:=hp.not_end (h.ne w)
 rcases h.two hw hj (Ne.symm hne) hp.on hq with ⟨_,e⟩ | ⟨c,e⟩
 ·exact ne.2 e
 ·have:P w=P (j+1):=by rw [← c,h.mod]
  rw [← this] at e
  exact ne.1 e
theorem Poly.off_within (h:Poly P n) {w j:Nat} (hw:w < n) (hj:j < n) (hne:j≠w) {px py qx qy:Rat} (hp:InP P w px py) (hq:InP P w qx qy):Off P j px py qx qy:=fun _ _ a b=>h.within_one hw hj hne (hp.conv hq b) a
theorem in_of_level {a b:Corner} {X Y:Rat} (l:lfR a.x a.y b.x b.y X Y=0) (hY:((a.y:Rat) < Y/\Y < b.y)\/((b.y:Rat) < Y/\Y < a.y)):OnO a.x a.y b.x b.y X Y:=by
 have hd:(b.y:Rat) - a.y≠0:=by grind
 have e:(Y - a.y) / ((b.y:Rat) - a.y)*((b.y:Rat) - a.y)=Y - a.y:=Rat.div_mul_cancel hd
 have e2:((b.y:Rat) - Y) / ((b.y:Rat) - a.y)*((b.y:Rat) - a.y)=b.y - Y:=Rat.div_mul_cancel hd
 refine ⟨(Y - a.y) / ((b.y:Rat) - a.y),?_,?_,?_,by grind⟩
 ·rcases hY with h | h
  ·exact pos_of_mul (u:=(b.y:Rat) - a.y) (by grind) (by grind)
  ·exact pos_of_mul (u:=(a.y:Rat) - b.y) (by grind) (by grind)
 ·have:0 < 1 - (Y - a.y) / ((b.y:Rat) - a.y):=by
   rcases hY with h | h
   ·exact pos_of_mul (u:=(b.y:Rat) - a.y) (by grind) (by grind)
   ·exact pos_of_mul (u:=(a.y:Rat) - b.y) (by grind) (by grind)
  grind
 ·unfold lfR at l
  refine mul_cancel hd ?_
  grind
theorem half_in {a b:Corner} (d:dirC a b=true) {k:Int} (hs:sg a b k≠0):OnO a.x a.y b.x b.y ((mid a b k:Int) / 2) (k+1 / 2):=by
 have g:=sg_ne hs
 have hne:b.y≠a.y:=by omega
 have c1:∀ {z:Int},z<=k->(z:Rat) < k+1 / 2:=fun {z} h=>by
  have:(z:Rat)<=k:=Rat.intCast_le_intCast.mpr h
  grind
 have c2:∀ {z:Int},k < z->(k:Rat)+1 / 2 < z:=fun {z} h=>by
  have:((k+1:Int):Rat)<=z:=Rat.intCast_le_intCast.mpr (by omega)
  rw [Rat.intCast_add] at this
  have:(k:Rat)+1<=z:=this
  grind
 refine in_of_level ?_ ?_
 ·unfold lfR mid xe
  rcases forms d with ⟨e,_⟩ | ⟨_,s,e,_⟩ | ⟨_,s,e,_⟩ | ⟨_,s,e,_⟩
  ·exact absurd e hne
  ·rw [s,e]
   simp
   grind
  ·rw [s]
   have e:(b.x:Rat) - a.x=b.y - a.y:=by
    rw [← Rat.intCast_sub,← Rat.intCast_sub,e]
   simp
   grind
  ·rw [s]
   have e:(b.x:Rat) - a.x=-(b.y - a.y):=by
    rw [← Rat.intCast_sub,← Rat.intCast_sub,e,Rat.intCast_neg]
   simp
   grind
 ·rcases g with g | g
  ·exact .inl ⟨c1 g.1,c2 g.2.1⟩
  ·exact .inr ⟨c1 g.1,c2 g.2.1⟩
theorem Poly.half_val (h:Poly P n) (hx:∀ i,0<=(P i).x/\(P i).x<=4095) (hE:lfE P n 0=-1) {w:Nat} (hw:w < n) (hne:(P (w+1)).y≠(P w).y) :
  ∃ X Y:Rat,InP P w X Y/\SP P n X Y=if (P w).y < (P (w+1)).y then -1 else 0:=by
 have o:=out_ok hne
 have s0:sg (P w) (P (w+1)) (kf (P w) (P (w+1)))≠0:=by omega
 refine ⟨_,_,half_in (h.dir w) s0,?_⟩
 rw [h.half]
 have L:=h.lev hx (kf (P w) (P (w+1)))
 rw [hE] at L
 by_cases c:(P w).y < (P (w+1)).y
 ·rw [if_pos c]
  have e:sg (P w) (P (w+1)) (kf (P w) (P (w+1)))=1:=by
   have g:=sg_ne s0
   omega
  exact L.up w hw e
 ·rw [if_neg c]
  have e:sg (P w) (P (w+1)) (kf (P w) (P (w+1)))=-1:=by
   have g:=sg_ne s0
   omega
  exact L.down w hw e
theorem Poly.same_leg (h:Poly P n) {w:Nat} (hw:w < n) {px py qx qy:Rat} (hp:InP P w px py) (hq:InP P w qx qy):SP P n px py=SP P n qx qy:=by
 have go:∀ {px py qx qy:Rat},InP P w px py->InP P w qx qy->py < qy->SP P n px py=SP P n qx qy:=fun {px py qx qy} hp hq c=>by
  have k:=h.up_but hw c fun j hj hne=>h.off_within hw hj hne hp hq
  have l:=lf_line hp.on hq.on
  unfold cwP rhoP at k
  rw [cw_zero (lf_on hp.on),cw_zero (lf_on hq.on),rho_zero l.1,rho_zero l.2] at k
  omega
 rcases (show py < qy\/py=qy\/qy < py by grind) with c | c | c
 ·exact go hp hq c
 ·subst c
  have k:=Poly.level_but (P:=P) hw fun j hj hne=>h.off_within hw hj hne hp hq
  unfold cwP at k
  rw [cw_zero (lf_on hp.on),cw_zero (lf_on hq.on)] at k
  omega
 ·exact (go hq hp c).symm
theorem sm_two {f g:Nat->Int} {o o':Nat} {n:Nat} (ho:o < n) (ho':o' < n) (hne:o≠o') (h:∀ j,j < n->j≠o->j≠o'->f j=g j):sm f n=sm g n+(f o - g o)+(f o' - g o'):=by
 have k1:=sm_one (f:=f) (g:=fun j=>if j=o' then f j else g j) (o:=o) ho fun j hj hj'=>by
  by_cases c:j=o'
  ·simp [c]
  ·simp [c]
   exact h j hj hj' c
 have k2:=sm_one (f:=fun j=>if j=o' then f j else g j) (g:=g) (o:=o') ho' fun j _ hj'=>by simp [hj']
 simp [hne] at k1 k2
 omega
theorem Poly.flat_val (h:Poly P n) (hx:∀ i,0<=(P i).x/\(P i).x<=4095) (hE:lfE P n 0=-1) {w:Nat} (hw:w < n) (fl:(P (w+1)).y=(P w).y) {X Y:Rat} (hp:InP P w X Y):SP P n X Y=if (P w).x < (P (w+1)).x then -1 else 0:=by
 have n3:=h.n3
 have hw1:(w+1) % n < n:=Nat.mod_lt _ (by omega)
 have nw:(w+1) % n≠w:=next_ne n3 hw
 have e1:P ((w+1) % n)=P (w+1):=h.mod _
 have e2:P ((w+1) % n+1)=P (w+2):=h.mod1 _
 have nf:=h.flat_next fl
 obtain ⟨X',Y',hq,hv⟩:=h.half_val hx hE hw1 (by rw [e1,e2]; exact nf)
 rw [e1,e2] at hv
 have hY:Y=(P w).y:=by
  obtain ⟨t,_,_,_,rfl⟩:=hp
  rw [fl]
  grind
 have fl':((P (w+1)).y:Rat)=(P w).y:=by rw [fl]
 generalize hw1':(w+1) % n=w1 at *
 -- to the corner
 have hb:OnP P w1 (P (w+1)).x (P (w+1)).y:=by
  unfold OnP OnE
  rw [e1]
  exact ⟨0,by grind,by grind,by grind,by grind⟩
 have offA:∀ j,j < n->j≠w->j≠w1->Off P j X Y (P (w+1)).x Y:=fun j hj j1 j2 X0 Y0 a b=>by
  have onw:OnP P w X0 Y0:=by
   obtain ⟨t,t0,t1,rfl,et⟩:=hp
   obtain ⟨u,u0,u1,rfl,rfl⟩:=b
   have k1:=mnn u0 (show 0<=1 - t by grind)
   have k2:=mnn (show 0<=1 - u by grind) (show 0<=1 - t by grind)
   refine ⟨t+u*(1 - t),by grind,by grind,by grind,?_⟩
   rw [fl',hY]
   grind
  rcases h.two hw hj (Ne.symm j1) onw a with ⟨c,_⟩ | ⟨c,e⟩
  ·exact j2 (by rw [← c,hw1'])
  ·have:P w=P (j+1):=by rw [← c,h.mod]
   rw [← this] at e
   have ex:=e.1
   obtain ⟨t,t0,t1,et,_⟩:=hp
   obtain ⟨u,u0,u1,eu,_⟩:=b
   rw [et] at eu
   rw [eu] at ex
   have hxne:((P (w+1)).x:Rat) - (P w).x≠0:=by
    rcases h.ne w with z | z
    ·grind
    ·exact absurd fl'.symm z
   have k1:=mnn u0 (show 0<=1 - t by grind)
   have:(t+u*(1 - t))*(((P (w+1)).x:Rat) - (P w).x)=0:=by grind
   rcases Rat.mul_eq_zero.mp this with z | z
   ·grind
   ·exact hxne z
 have kA:SP P n X Y - SP P n (P (w+1)).x Y=cwP P w1 X Y:=by
  unfold SP
  rw [← sm_sub,sm_two (g:=fun _=>0) hw hw1 (Ne.symm nw) fun j hj j1 j2=>by
   have e:cwP P j X Y=cwP P j (P (w+1)).x Y:=edge_level' (nt_of (offA j hj j1 j2))
   show cwP P j X Y - cwP P j (P (w+1)).x Y=0
   rw [e]
   omega]
  have z1:cwP P w X Y=0:=cw_zero (lf_on hp.on)
  have z2:cwP P w (P (w+1)).x Y=0:=by
   unfold cwP
   rw [fl']
   exact cw_flat
  have z3:cwP P w1 (P (w+1)).x Y=0:=by
   rw [hY,← fl']
   exact cw_zero (lf_on hb)
  rw [sm_zero]
  show 0+(cwP P w X Y - cwP P w (P (w+1)).x Y - 0)+(cwP P w1 X Y - cwP P w1 (P (w+1)).x Y - 0)=_
  omega
 -- along the next line
 have offB:∀ j,j < n->j≠w->j≠w1->Off P j (P (w+1)).x (P (w+1)).y X' Y':=fun j hj j1 j2 X0 Y0 a b=>by
  have hq2:=hq
  unfold InP at hq2
  obtain ⟨t,t0,t1,et,ft⟩:=hq2
  obtain ⟨u,u0,u1,eu,fu⟩:=b
  rw [e1,e2] at et ft
  have k1:=mnn u0 (show 0<=t by grind)
  have k2:=mnn u0 (show 0<=1 - t by grind)
  have onw:OnP P w1 X0 Y0:=by
   unfold OnP OnE
   rw [e1,e2]
   exact ⟨u*t,k1,by grind,by grind,by grind⟩
  rcases h.two hw1 hj (Ne.symm j2) onw a with ⟨c,e⟩ | ⟨c,e⟩
  ·rw [e2] at e
   have ne:=h.ne (w+1)
   have k:∀ {p q:Rat},p≠q->p+u*(p+t*(q - p) - p)≠q:=fun {p q} hne=>no_end t0 t1 u1 hne
   rcases ne with ne | ne
   ·exact k ne (by rw [← et,← eu]; exact e.1)
   ·exact k ne (by rw [← ft,← fu]; exact e.2)
  ·exact j1 (mod_inj hj hw (by rw [c,hw1']))
 have dq:SP P n (P (w+1)).x (P (w+1)).y=if (P (w+1)).y < (P (w+2)).y then -1 else (if (P w).x < (P (w+1)).x then -1 else 0):=by
  have ly:∀ {Z:Rat},InP P w1 X' Z->((P (w+1)).y < (P (w+2)).y->((P (w+1)).y:Rat) < Z)/\((P (w+2)).y < (P (w+1)).y->Z < ((P (w+1)).y:Rat)):=fun {Z} hz=>by
   unfold InP at hz
   rw [e1,e2] at hz
   obtain ⟨t,t0,t1,_,rfl⟩:=hz
   constructor
   ·intro c
    have:((P (w+1)).y:Rat) < (P (w+2)).y:=Rat.intCast_lt_intCast.mpr c
    have:=Rat.mul_pos t0 (show 0 < ((P (w+2)).y:Rat) - (P (w+1)).y by grind)
    grind
   ·intro c
    have:((P (w+2)).y:Rat) < (P (w+1)).y:=Rat.intCast_lt_intCast.mpr c
    have:=Rat.mul_pos t0 (show 0 < ((P (w+1)).y:Rat) - (P (w+2)).y by grind)
    grind
  have ll:=lf_line hb hq.on
  have ll2:=lf_line hq.on hb
  rw [e1,e2] at ll ll2
  by_cases c:(P (w+1)).y < (P (w+2)).y
  ·rw [if_pos c]
   rw [if_pos c] at hv
   have lt:=(ly hq).1 c
   have k:SP P n (P (w+1)).x (P (w+1)).y - SP P n X' Y'=0:=by
    unfold SP
    rw [← sm_sub,sm_two (g:=fun j=>rhoP P (P (w+1)).x (P (w+1)).y X' Y' (j+1) - rhoP P (P (w+1)).x (P (w+1)).y X' Y' j) hw hw1 (Ne.symm nw) fun j hj j1 j2=>edge_any lt (nt_of (offB j hj j1 j2)),h.tele fun c=>rho (P (w+1)).x (P (w+1)).y X' Y' c.x c.y]
    have z1:cwP P w (P (w+1)).x (P (w+1)).y=0:=by
     unfold cwP
     rw [fl']
     exact cw_flat
    have z2:cwP P w X' Y'=0:=by
     unfold cwP
     rw [fl']
     exact cw_flat
    have z3:cwP P w1 (P (w+1)).x (P (w+1)).y=0:=cw_zero (lf_on hb)
    have z4:cwP P w1 X' Y'=0:=cw_zero (lf_on hq.on)
    have r1:rhoP P (P (w+1)).x (P (w+1)).y X' Y' (w+1)=0:=rho_zero ll.1
    have r2:rhoP P (P (w+1)).x (P (w+1)).y X' Y' w1=0:=by
     unfold rhoP
     rw [e1]
     exact rho_zero ll.1
    have r3:rhoP P (P (w+1)).x (P (w+1)).y X' Y' (w1+1)=0:=by
     unfold rhoP
     rw [e2]
     exact rho_zero ll.2
    have r4:rhoP P (P (w+1)).x (P (w+1)).y X' Y' w=0:=by
     unfold rhoP rho
     rw [fl',if_neg (by grind)]
    show 0+(cwP P w (P (w+1)).x (P (w+1)).y - cwP P w X' Y' - (rhoP P (P (w+1)).x (P (w+1)).y X' Y' (w+1) - rhoP P (P (w+1)).x (P (w+1)).y X' Y' w))+(cwP P w1 (P (w+1)).x (P (w+1)).y - cwP P w1 X' Y' - (rhoP P (P (w+1)).x (P (w+1)).y X' Y' (w1+1) - rhoP P (P (w+1)).x (P (w+1)).y X' Y' w1))=0
    omega
   omega
  ·rw [if_neg c]
   rw [if_neg c] at hv
   have lt:=(ly hq).2 (by omega)
   have k:SP P n X' Y' - SP P n (P (w+1)).x (P (w+1)).y=if (P w).x < (P (w+1)).x then 1 else 0:=by
    unfold SP
    rw [← sm_sub,sm_two (g:=fun j=>rhoP P X' Y' (P (w+1)).x (P (w+1)).y (j+1) - rhoP P X' Y' (P (w+1)).x (P (w+1)).y j) hw hw1 (Ne.symm nw) fun j hj j1 j2=>edge_any lt (nt_of (offB j hj j1 j2).swap),h.tele fun c=>rho X' Y' (P (w+1)).x (P (w+1)).y c.x c.y]
    have z1:cwP P w (P (w+1)).x (P (w+1)).y=0:=by
     unfold cwP
     rw [fl']
     exact cw_flat
    have z2:cwP P w X' Y'=0:=by
     unfold cwP
     rw [fl']
     exact cw_flat
    have z3:cwP P w1 (P (w+1)).x (P (w+1)).y=0:=cw_zero (lf_on hb)
    have z4:cwP P w1 X' Y'=0:=cw_zero (lf_on hq.on)
    have r1:rhoP P X' Y' (P (w+1)).x (P (w+1)).y (w+1)=0:=rho_zero ll2.1
    have r2:rhoP P X' Y' (P (w+1)).x (P (w+1)).y w1=0:=by
     unfold rhoP
     rw [e1]
     exact rho_zero ll2.1
    have r3:rhoP P X' Y' (P (w+1)).x (P (w+1)).y (w1+1)=0:=by
     unfold rhoP
     rw [e2]
     exact rho_zero ll2.2
    have r4:rhoP P X' Y' (P (w+1)).x (P (w+1)).y w=if (P w).x < (P (w+1)).x then 1 else 0:=by
     have l:lfR X' Y' (P (w+1)).x (P (w+1)).y (P w).x (P w).y=(((P (w+1)).y:Rat) - Y')*(((P (w+1)).x:Rat) - (P w).x):=by
      unfold lfR
      rw [fl']
      grind
     unfold rhoP rho
     rw [l]
     by_cases z:(P w).x < (P (w+1)).x
     ·have:((P w).x:Rat) < (P (w+1)).x:=Rat.intCast_lt_intCast.mpr z
      have:=Rat.mul_pos (show 0 < ((P (w+1)).y:Rat) - Y' by grind) (show 0 < ((P (w+1)).x:Rat) - (P w).x by grind)
      rw [if_pos z,if_pos ⟨by grind,by grind,this⟩]
     ·have:((P (w+1)).x:Rat)<=(P w).x:=Rat.intCast_le_intCast.mpr (by omega)
      have:=mnp (show 0<=((P (w+1)).y:Rat) - Y' by grind) (show ((P (w+1)).x:Rat) - (P w).x<=0 by grind)
      rw [if_neg z,if_neg (by grind)]
    show 0+(cwP P w X' Y' - cwP P w (P (w+1)).x (P (w+1)).y - (rhoP P X' Y' (P (w+1)).x (P (w+1)).y (w+1) - rhoP P X' Y' (P (w+1)).x (P (w+1)).y w))+(cwP P w1 X' Y' - cwP P w1 (P (w+1)).x (P (w+1)).y - (rhoP P X' Y' (P (w+1)).x (P (w+1)).y (w1+1) - rhoP P X' Y' (P (w+1)).x (P (w+1)).y w1))=_
    omega
   split at k <;> rename_i z
   ·rw [if_pos z]
    omega
   ·rw [if_neg z]
    omega
 rw [hY,← fl',dq] at kA
 rw [hY,← fl']
 -- the next line, seen from the point
 have c1:cwP P w1 X (P (w+1)).y=if (P (w+1)).y < (P (w+2)).y then (if (P w).x < (P (w+1)).x then 0 else 1) else 0:=by
  unfold cwP cw
  rw [e1,e2]
  by_cases c:(P (w+1)).y < (P (w+2)).y
  ·have cr:((P (w+1)).y:Rat) < (P (w+2)).y:=Rat.intCast_lt_intCast.mpr c
   rw [if_pos c,if_pos ⟨by grind,cr⟩]
   have l:lfR (P (w+1)).x (P (w+1)).y (P (w+2)).x (P (w+2)).y X (P (w+1)).y=(((P (w+2)).y:Rat) - (P (w+1)).y)*((P (w+1)).x - X):=by
    unfold lfR
    grind
   rw [l]
   obtain ⟨t,t0,t1,rfl,_⟩:=hp
   by_cases z:(P w).x < (P (w+1)).x
   ·have:((P w).x:Rat) < (P (w+1)).x:=Rat.intCast_lt_intCast.mpr z
    have k1:=Rat.mul_pos (show 0 < 1 - t by grind) (show 0 < ((P (w+1)).x:Rat) - (P w).x by grind)
    have k2:=mnn (show 0<=((P (w+2)).y:Rat) - (P (w+1)).y by grind) (show 0<=((P (w+1)).x:Rat) - ((P w).x+t*((P (w+1)).x - (P w).x)) by grind)
    rw [if_pos z,if_neg (by grind)]
   ·have:((P (w+1)).x:Rat)<=(P w).x:=Rat.intCast_le_intCast.mpr (by omega)
    have ne:((P (w+1)).x:Rat)≠(P w).x:=by
     rcases h.ne w with y | y
     ·exact fun q=>y q.symm
     ·exact absurd fl'.symm y
    have k1:=Rat.mul_pos (show 0 < 1 - t by grind) (show 0 < ((P w).x:Rat) - (P (w+1)).x by grind)
    have k2:=Rat.mul_pos (show 0 < ((P (w+2)).y:Rat) - (P (w+1)).y by grind) (show 0 < ((P w).x+t*((P (w+1)).x - (P w).x)) - ((P (w+1)).x:Rat) by grind)
    rw [if_neg z,if_pos (by grind)]
  ·have cr:((P (w+2)).y:Rat)<=(P (w+1)).y:=Rat.intCast_le_intCast.mpr (by omega)
   rw [if_neg c,if_neg (by grind),if_neg (by grind)]
 rw [c1] at kA
 by_cases c:(P (w+1)).y < (P (w+2)).y
 ·rw [if_pos c,if_pos c] at kA
  by_cases z:(P w).x < (P (w+1)).x
  ·rw [if_pos z] at kA ⊢
   omega
  ·rw [if_neg z] at kA ⊢
   omega
 ·rw [if_neg c,if_neg c] at kA
  omega
end
end Wm
namespace Wm
open Eh
theorem signs_of {ya yb yp A B β:Rat} (h1:ya < yp) (h2:yp < yb) (I1:(yb - yp)*A+(yp - ya)*B=0) (d:B - A=-β):(0 < β->0 < A/\B < 0)/\(β < 0->A < 0/\0 < B):=by
 have u:0 < yb - yp:=by grind
 have v:0 < yp - ya:=by grind
 constructor
 ·intro hb
  have hA:0 < A:=by
   rcases (show A<=0\/0 < A by grind) with z | z
   ·have k1:=mnp (show 0<=yb - yp by grind) z
    have k2:B < 0:=by grind
    have k3:=Rat.mul_pos v (show 0 < -B by grind)
    grind
   ·exact z
  have k:=Rat.mul_pos u hA
  exact ⟨hA,neg_of_mul' v (by grind)⟩
 ·intro hb
  have hA:A < 0:=by
   rcases (show 0<=A\/A < 0 by grind) with z | z
   ·have k1:=mnn (show 0<=yb - yp by grind) z
    have k2:0 < B:=by grind
    have k3:=Rat.mul_pos v k2
    grind
   ·exact z
  have k:=Rat.mul_pos u (show 0 < -A by grind)
  exact ⟨hA,pos_of_mul v (by grind)⟩
theorem beside_up {ax ay bx by_ px py mx my:Rat} (h1:ay < py) (h2:py < by_) (hp:lfR ax ay bx by_ px py=0) (hm:lfR ax ay bx by_ mx my≠0) :
  (py < my->cw ax ay bx by_ mx my+(rho px py mx my bx by_ - rho px py mx my ax ay)=if lfR ax ay bx by_ mx my < 0 then 1 else 0) /\
  (py=my->cw ax ay bx by_ mx my=if lfR ax ay bx by_ mx my < 0 then 1 else 0) /\
  (my < py->cw ax ay bx by_ mx my - (rho mx my px py bx by_ - rho mx my px py ax ay)=if lfR ax ay bx by_ mx my < 0 then 1 else 0):=by
 have I1:(by_ - py)*lfR px py mx my ax ay+(py - ay)*lfR px py mx my bx by_=0:=by
  have:(by_ - py)*lfR px py mx my ax ay+(py - ay)*lfR px py mx my bx by_=-((my - py)*lfR ax ay bx by_ px py):=by
   unfold lfR
   grind
  rw [this,hp]
  grind
 have d:lfR px py mx my bx by_ - lfR px py mx my ax ay=-lfR ax ay bx by_ mx my:=by
  have:=lf_diff ax ay bx by_ px py mx my
  grind
 have s:=signs_of h1 h2 I1 d
 have sw:lfR mx my px py ax ay=-lfR px py mx my ax ay:=lfR_swap px py mx my ax ay
 generalize hb:lfR ax ay bx by_ mx my = β at *
 have hc:cw ax ay bx by_ mx my=if ay<=my/\my < by_ then (if β < 0 then 1 else 0) else 0:=by
  unfold cw
  rw [hb,if_neg (show ¬ (by_<=my/\my < ay) by grind)]
 generalize lfR px py mx my ax ay=A at *
 generalize hB:lfR px py mx my bx by_=B at *
 rw [hc]
 refine ⟨fun c=>?_,fun c=>?_,fun c=>?_⟩
 ·have r1:rho px py mx my ax ay=0:=by
   unfold rho
   rw [if_neg (by grind)]
  have r2:rho px py mx my bx by_=if by_<=my/\0 < B then 1 else 0:=by
   unfold rho
   rw [hB]
   by_cases z:by_<=my/\0 < B
   ·rw [if_pos z,if_pos ⟨h2,z.1,z.2⟩]
   ·rw [if_neg z,if_neg (fun y=>z ⟨y.2.1,y.2.2⟩)]
  rw [r1,r2]
  rcases (show β < 0\/0 < β by grind) with z | z
  ·have s2:=s.2 z
   rw [if_pos z]
   by_cases y:my < by_
   ·rw [if_pos ⟨by grind,y⟩,if_neg (by grind)]
    rfl
   ·rw [if_neg (by grind),if_pos ⟨by grind,s2.2⟩]
    rfl
  ·have s1:=s.1 z
   rw [if_neg (show ¬ β < 0 by grind),if_neg (show ¬ (by_<=my/\0 < B) by grind)]
   simp
 ·rw [if_pos (by grind)]
 ·have r2:rho mx my px py bx by_=0:=by
   unfold rho
   rw [if_neg (by grind)]
  have r1:rho mx my px py ax ay=if my < ay/\A < 0 then 1 else 0:=by
   unfold rho
   rw [sw]
   by_cases z:my < ay/\A < 0
   ·rw [if_pos z,if_pos ⟨z.1,by grind,by grind⟩]
   ·rw [if_neg z,if_neg (fun y=>z ⟨y.1,by grind⟩)]
  rw [r1,r2]
  rcases (show β < 0\/0 < β by grind) with z | z
  ·have s2:=s.2 z
   rw [if_pos z]
   by_cases y:my < ay
   ·rw [if_neg (by grind),if_pos ⟨y,s2.1⟩]
    rfl
   ·rw [if_pos ⟨by grind,by grind⟩,if_neg (by grind)]
    rfl
  ·have s1:=s.1 z
   rw [if_neg (show ¬ β < 0 by grind),if_neg (show ¬ (my < ay/\A < 0) by grind)]
   simp
section
variable {P:Nat->Corner} {n:Nat}
theorem Poly.beside (h:Poly P n) (hx:∀ i,0<=(P i).x/\(P i).x<=4095) (hE:lfE P n 0=-1) {w:Nat} (hw:w < n) {px py mx my:Rat} (hp:InP P w px py) (hm:lfP P w mx my≠0) (off:∀ j,j < n->j≠w->Off P j px py mx my) :
  SP P n mx my=if 0 < lfP P w mx my then -1 else 0:=by
 have lp:=lf_on hp.on
 by_cases fl:(P (w+1)).y=(P w).y
 ·-- a flat line
  have hv:=h.flat_val hx hE hw fl hp
  have fl':((P (w+1)).y:Rat)=(P w).y:=by rw [fl]
  have hy:py=(P w).y:=by
   obtain ⟨t,_,_,_,rfl⟩:=hp
   rw [fl]
   grind
  have l:lfP P w mx my=(((P (w+1)).x:Rat) - (P w).x)*(my - py):=by
   unfold lfP lfR
   rw [fl',hy]
   grind
  have z0:∀ X Y:Rat,cwP P w X Y=0:=fun X Y=>by
   unfold cwP
   rw [fl']
   exact cw_flat
  have xs:((P w).x < (P (w+1)).x/\((P w).x:Rat) < px/\px < (P (w+1)).x)\/((P (w+1)).x < (P w).x/\((P (w+1)).x:Rat) < px/\px < (P w).x):=by
   obtain ⟨t,t0,t1,rfl,_⟩:=hp
   have ne:(P (w+1)).x≠(P w).x:=fun q=>by
    rcases h.ne w with y | y
    ·exact y (by rw [q])
    ·exact y fl'.symm
   rcases (show (P w).x < (P (w+1)).x\/(P (w+1)).x < (P w).x by omega) with c | c
   ·have:((P w).x:Rat) < (P (w+1)).x:=Rat.intCast_lt_intCast.mpr c
    have k1:=Rat.mul_pos t0 (show 0 < ((P (w+1)).x:Rat) - (P w).x by grind)
    have k2:=Rat.mul_pos (show 0 < 1 - t by grind) (show 0 < ((P (w+1)).x:Rat) - (P w).x by grind)
    exact .inl ⟨c,by grind,by grind⟩
   ·have:((P (w+1)).x:Rat) < (P w).x:=Rat.intCast_lt_intCast.mpr c
    have k1:=Rat.mul_pos t0 (show 0 < ((P w).x:Rat) - (P (w+1)).x by grind)
    have k2:=Rat.mul_pos (show 0 < 1 - t by grind) (show 0 < ((P w).x:Rat) - (P (w+1)).x by grind)
    exact .inr ⟨c,by grind,by grind⟩
  rcases (show py < my\/py=my\/my < py by grind) with c | c | c
  ·have k:=h.up_but hw c off
   rw [z0,z0] at k
   have r1:rhoP P px py mx my w=0:=by
    unfold rhoP rho
    rw [if_neg (by grind)]
   have r2:rhoP P px py mx my (w+1)=0:=by
    unfold rhoP rho
    rw [if_neg (by grind)]
   rw [r1,r2,hv] at k
   rw [l]
   rcases xs with ⟨x0,x1,x2⟩ | ⟨x0,x1,x2⟩
   ·have:=Rat.mul_pos (show 0 < ((P (w+1)).x:Rat) - (P w).x by grind) (show 0 < my - py by grind)
    rw [if_pos this]
    rw [if_pos x0] at k
    omega
   ·have:=mpn (show ((P (w+1)).x:Rat) - (P w).x<=0 by grind) (show 0<=my - py by grind)
    rw [if_neg (by grind)]
    rw [if_neg (by omega)] at k
    omega
  ·exact absurd (by rw [l,c]; grind) hm
  ·have k:=h.up_but hw c fun j hj hne=>(off j hj hne).swap
   rw [z0,z0] at k
   have lv:∀ v:Corner,(v.y:Rat)=py->lfR mx my px py v.x v.y=(py - my)*(px - v.x):=fun v e=>by
    unfold lfR
    rw [e]
    grind
   have l1:=lv (P w) hy.symm
   have l2:=lv (P (w+1)) (by rw [fl',hy])
   rw [l]
   rcases xs with ⟨x0,x1,x2⟩ | ⟨x0,x1,x2⟩
   ·have r1:rhoP P mx my px py w=1:=by
     have:=Rat.mul_pos (show 0 < py - my by grind) (show 0 < px - (P w).x by grind)
     unfold rhoP rho
     rw [l1,if_pos ⟨by grind,by grind,this⟩]
    have r2:rhoP P mx my px py (w+1)=0:=by
     have:=mnp (show 0<=py - my by grind) (show px - (P (w+1)).x<=0 by grind)
     unfold rhoP rho
     rw [l2,if_neg (by grind)]
    rw [r1,r2,hv,if_pos x0] at k
    have:=mnp (show 0<=((P (w+1)).x:Rat) - (P w).x by grind) (show my - py<=0 by grind)
    rw [if_neg (by grind)]
    omega
   ·have r2:rhoP P mx my px py (w+1)=1:=by
     have:=Rat.mul_pos (show 0 < py - my by grind) (show 0 < px - (P (w+1)).x by grind)
     unfold rhoP rho
     rw [l2,if_pos ⟨by grind,by grind,this⟩]
    have r1:rhoP P mx my px py w=0:=by
     have:=mnp (show 0<=py - my by grind) (show px - (P w).x<=0 by grind)
     unfold rhoP rho
     rw [l1,if_neg (by grind)]
    rw [r1,r2,hv,if_neg (by omega)] at k
    have:=Rat.mul_pos (show 0 < ((P w).x:Rat) - (P (w+1)).x by grind) (show 0 < py - my by grind)
    rw [if_pos (by grind)]
    omega
 ·obtain ⟨X',Y',hq,hv'⟩:=h.half_val hx hE hw fl
  have hv:=(h.same_leg hw hp hq).trans hv'
  have hcp:cwP P w px py=0:=cw_zero lp
  rcases (show (P w).y < (P (w+1)).y\/(P (w+1)).y < (P w).y by omega) with up | dn
  ·rw [if_pos up] at hv
   have upr:((P w).y:Rat) < (P (w+1)).y:=Rat.intCast_lt_intCast.mpr up
   obtain ⟨y1,y2⟩:((P w).y:Rat) < py/\py < (P (w+1)).y:=by
    obtain ⟨t,t0,t1,_,rfl⟩:=hp
    have k1:=Rat.mul_pos t0 (show 0 < ((P (w+1)).y:Rat) - (P w).y by grind)
    have k2:=Rat.mul_pos (show 0 < 1 - t by grind) (show 0 < ((P (w+1)).y:Rat) - (P w).y by grind)
    constructor <;> grind
   have b:(py < my->cwP P w mx my+(rhoP P px py mx my (w+1) - rhoP P px py mx my w)=if lfP P w mx my < 0 then 1 else 0)/\(py=my->cwP P w mx my=if lfP P w mx my < 0 then 1 else 0)/\(my < py->cwP P w mx my - (rhoP P mx my px py (w+1) - rhoP P mx my px py w)=if lfP P w mx my < 0 then 1 else 0):=beside_up y1 y2 lp hm
   generalize hv0:(if lfP P w mx my < 0 then 1 else 0:Int)=v0 at b
   have fin:SP P n mx my=SP P n px py+v0:=by
    rcases (show py < my\/py=my\/my < py by grind) with c | c | c
    ·have k:=h.up_but hw c off
     have:=b.1 c
     omega
    ·subst c
     have k:=Poly.level_but (P:=P) hw off
     have:=b.2.1 rfl
     omega
    ·have k:=h.up_but hw c fun j hj hne=>(off j hj hne).swap
     have:=b.2.2 c
     omega
   rw [fin,hv,← hv0]
   by_cases z:lfP P w mx my < 0
   ·rw [if_pos z,if_neg (by grind)]
    rfl
   ·rw [if_neg z,if_pos (by grind)]
    rfl
  ·rw [if_neg (by omega)] at hv
   have dnr:((P (w+1)).y:Rat) < (P w).y:=Rat.intCast_lt_intCast.mpr dn
   obtain ⟨y1,y2⟩:((P (w+1)).y:Rat) < py/\py < (P w).y:=by
    obtain ⟨t,t0,t1,_,rfl⟩:=hp
    have k1:=Rat.mul_pos t0 (show 0 < ((P w).y:Rat) - (P (w+1)).y by grind)
    have k2:=Rat.mul_pos (show 0 < 1 - t by grind) (show 0 < ((P w).y:Rat) - (P (w+1)).y by grind)
    constructor <;> grind
   have e1:lfR (P (w+1)).x (P (w+1)).y (P w).x (P w).y mx my=-lfP P w mx my:=lfR_swap _ _ _ _ _ _
   have e2:lfR (P (w+1)).x (P (w+1)).y (P w).x (P w).y px py=0:=by
    rw [lfR_swap,lp]
    grind
   have e3:cw (P (w+1)).x (P (w+1)).y (P w).x (P w).y mx my=-cwP P w mx my:=cw_swap _ _ _ _ _ _
   have b:=beside_up y1 y2 e2 (by rw [e1]; grind)
   have b:(py < my->-cwP P w mx my+(rhoP P px py mx my w - rhoP P px py mx my (w+1))=if -lfP P w mx my < 0 then 1 else 0)/\(py=my->-cwP P w mx my=if -lfP P w mx my < 0 then 1 else 0)/\(my < py->-cwP P w mx my - (rhoP P mx my px py w - rhoP P mx my px py (w+1))=if -lfP P w mx my < 0 then 1 else 0):=by
    rw [e1,e3] at b
    exact b
   generalize hv0:(if -lfP P w mx my < 0 then 1 else 0:Int)=v0 at b
   have fin:SP P n mx my=SP P n px py - v0:=by
    rcases (show py < my\/py=my\/my < py by grind) with c | c | c
    ·have k:=h.up_but hw c off
     have:=b.1 c
     omega
    ·subst c
     have k:=Poly.level_but (P:=P) hw off
     have:=b.2.1 rfl
     omega
    ·have k:=h.up_but hw c fun j hj hne=>(off j hj hne).swap
     have:=b.2.2 c
     omega
   rw [fin,hv,← hv0]
   by_cases z:-lfP P w mx my < 0
   ·rw [if_pos z,if_pos (by grind)]
    rfl
   ·rw [if_neg z,if_neg (by grind)]
    rfl
end
end Wm
namespace Wm
open Eh
structure Fine (r:Room):Prop where
 pol:Poly r.corner r.n
 hx:∀ i,0<=(r.corner i).x/\(r.corner i).x<=4095
 hy:∀ i,0<=(r.corner i).y/\(r.corner i).y<=4095
 neg:lfE r.corner r.n 0=-1
 h1:1<=r.h
theorem left_line (r:Room) (i:Nat) (p:Pt):left (r.line i).1 (r.line i).2 p=lfP r.corner i p.x p.y:=rfl
theorem between_iff {a b c:Rat}:between a b c=true↔min a b<=c/\c<=max a b:=by
 unfold between
 simp
theorem frac_range {a b c:Rat} (hne:a≠b) (h:min a b<=c/\c<=max a b):0<=(c - a) / (b - a)/\(c - a) / (b - a)<=1/\c=a+(c - a) / (b - a)*(b - a):=by
 have hd:b - a≠0:=by grind
 have e:(c - a) / (b - a)*(b - a)=c - a:=Rat.div_mul_cancel hd
 refine ⟨?_,?_,by grind⟩
 ·rcases (show a < b\/b < a by grind) with z | z
  ·rcases (show 0<=(c - a) / (b - a)\/(c - a) / (b - a) < 0 by grind) with y | y
   ·exact y
   ·have:=Rat.mul_pos (show 0 < b - a by grind) (show 0 < -((c - a) / (b - a)) by grind)
    grind
  ·rcases (show 0<=(c - a) / (b - a)\/(c - a) / (b - a) < 0 by grind) with y | y
   ·exact y
   ·have:=Rat.mul_pos (show 0 < a - b by grind) (show 0 < -((c - a) / (b - a)) by grind)
    grind
 ·rcases (show a < b\/b < a by grind) with z | z
  ·rcases (show (c - a) / (b - a)<=1\/1 < (c - a) / (b - a) by grind) with y | y
   ·exact y
   ·have:=Rat.mul_pos (show 0 < b - a by grind) (show 0 < (c - a) / (b - a) - 1 by grind)
    grind
  ·rcases (show (c - a) / (b - a)<=1\/1 < (c - a) / (b - a) by grind) with y | y
   ·exact y
   ·have:=Rat.mul_pos (show 0 < a - b by grind) (show 0 < (c - a) / (b - a) - 1 by grind)
    grind
theorem on_of {ax ay bx by_ X Y:Rat} (ne:ax≠bx\/ay≠by_) (l:lfR ax ay bx by_ X Y=0) (h1:min ax bx<=X/\X<=max ax bx) (h2:min ay by_<=Y/\Y<=max ay by_):OnQ ax ay bx by_ X Y:=by
 unfold lfR at l
 rcases ne with ne | ne
 ·obtain ⟨k1,k2,k3⟩:=frac_range ne h1
  refine ⟨_,k1,k2,k3,?_⟩
  refine mul_cancel (show bx - ax≠0 by grind) ?_
  generalize (X - ax) / (bx - ax)=t at *
  grind
 ·obtain ⟨k1,k2,k3⟩:=frac_range ne h2
  refine ⟨_,k1,k2,?_,k3⟩
  refine mul_cancel (show by_ - ay≠0 by grind) ?_
  generalize (Y - ay) / (by_ - ay)=t at *
  grind
theorem onLine_iff {r:Room} (F:Fine r) (i:Nat) (p:Pt):onLine (r.line i) p=true↔OnP r.corner i p.x p.y:=by
 unfold onLine
 rw [left_line]
 constructor
 ·intro h
  simp only [Bool.and_eq_true,beq_iff_eq,between_iff] at h
  exact on_of (F.pol.ne i) h.1 h.2.1 h.2.2
 ·intro h
  have l:=lf_on h
  obtain ⟨t,t0,t1,e1,e2⟩:=h
  have x:=on_range t0 t1 e1
  have y:=on_range t0 t1 e2
  simp only [Bool.and_eq_true,beq_iff_eq,between_iff]
  exact ⟨l,x,y⟩
theorem sm_even {f:Nat->Int}:∀ {n:Nat},(∀ j,j < n->f j % 2=0)->sm f n % 2=0
 | 0,_=>rfl
 | n+1,h=>by
  have a:=sm_even (f:=f) (n:=n) fun j hj=>h j (by omega)
  have b:=h n (by omega)
  show (sm f n+f n) % 2=0
  omega
theorem count_sm (f:Nat->Bool):∀ n:Nat,(((List.range n).filter f).length:Int)=sm (fun j=>if f j=true then 1 else 0) n
 | 0=>rfl
 | n+1=>by
  rw [List.range_succ,List.filter_append,List.length_append]
  show _=sm (fun j=>if f j=true then 1 else 0) n+(if f n=true then 1 else 0)
  rw [← count_sm f n]
  cases e:f n <;> simp [e]
theorem odd_iff {r:Room} (F:Fine r) {p:Pt} (no:∀ i,i < r.n->¬ OnP r.corner i p.x p.y):((r.lines.filter (crosses p)).length % 2 == 1)=true↔SP r.corner r.n p.x p.y % 2=1:=by
 have e:((r.lines.filter (crosses p)).length:Int)=sm (fun j=>if crosses p (r.line j)=true then 1 else 0) r.n:=by
  rw [← count_sm fun j=>crosses p (r.line j)]
  unfold Room.lines
  rw [List.filter_map,List.length_map]
  rfl
 have t:=F.pol.tele fun c=>if p.y < (c.y:Rat) then 1 else 0
 have ev:=sm_even (f:=fun j=>(if crosses p (r.line j)=true then 1 else 0)+cwP r.corner j p.x p.y - ((if p.y < ((r.corner (j+1)).y:Rat) then 1 else 0) - (if p.y < ((r.corner j).y:Rat) then 1 else 0))) (n:=r.n) fun j hj=>by
  have no:=no j hj
  have cr:crosses p (r.line j)=(if ((r.corner j).y:Rat)<=p.y/\p.y < (r.corner (j+1)).y then decide (0 < lfP r.corner j p.x p.y) else if ((r.corner (j+1)).y:Rat)<=p.y/\p.y < (r.corner j).y then decide (lfP r.corner j p.x p.y < 0) else false):=rfl
  have c:cwP r.corner j p.x p.y=(if ((r.corner j).y:Rat)<=p.y/\p.y < (r.corner (j+1)).y then (if lfP r.corner j p.x p.y < 0 then 1 else 0) else if ((r.corner (j+1)).y:Rat)<=p.y/\p.y < (r.corner j).y then (if 0 < lfP r.corner j p.x p.y then -1 else 0) else 0):=rfl
  have on0:lfP r.corner j p.x p.y=0->(((r.corner j).y:Rat)<=p.y/\p.y < (r.corner (j+1)).y)\/(((r.corner (j+1)).y:Rat)<=p.y/\p.y < (r.corner j).y)->False:=fun l z=>by
   have ne:((r.corner j).y:Rat)≠(r.corner (j+1)).y:=by grind
   have hr:min ((r.corner j).y:Rat) (r.corner (j+1)).y<=p.y/\p.y<=max ((r.corner j).y:Rat) (r.corner (j+1)).y:=by grind
   obtain ⟨k1,k2,k3⟩:=frac_range ne hr
   refine no ⟨_,k1,k2,?_,k3⟩
   refine mul_cancel (show ((r.corner (j+1)).y:Rat) - (r.corner j).y≠0 by grind) ?_
   unfold lfP lfR at l
   generalize (p.y - (r.corner j).y) / (((r.corner (j+1)).y:Rat) - (r.corner j).y)=u at *
   grind
  simp only [cr,c]
  by_cases a:((r.corner j).y:Rat)<=p.y/\p.y < (r.corner (j+1)).y
  ·rw [if_pos a,if_pos a,if_pos a.2,if_neg (show ¬ p.y < ((r.corner j).y:Rat) by grind)]
   rcases (show lfP r.corner j p.x p.y < 0\/lfP r.corner j p.x p.y=0\/0 < lfP r.corner j p.x p.y by grind) with z | z | z
   ·rw [if_pos z,decide_eq_false (show ¬ 0 < lfP r.corner j p.x p.y by grind)]
    rfl
   ·exact (on0 z (.inl a)).elim
   ·rw [if_neg (show ¬ lfP r.corner j p.x p.y < 0 by grind),decide_eq_true z]
    rfl
  ·rw [if_neg a,if_neg a]
   by_cases b:((r.corner (j+1)).y:Rat)<=p.y/\p.y < (r.corner j).y
   ·rw [if_pos b,if_pos b,if_neg (show ¬ p.y < ((r.corner (j+1)).y:Rat) by grind),if_pos b.2]
    rcases (show lfP r.corner j p.x p.y < 0\/lfP r.corner j p.x p.y=0\/0 < lfP r.corner j p.x p.y by grind) with z | z | z
    ·rw [if_neg (show ¬ 0 < lfP r.corner j p.x p.y by grind),decide_eq_true z]
     rfl
    ·exact (on0 z (.inr b)).elim
    ·rw [if_pos z,decide_eq_false (show ¬ lfP r.corner j p.x p.y < 0 by grind)]
     rfl
   ·rw [if_neg b,if_neg b]
    by_cases c1:p.y < ((r.corner (j+1)).y:Rat)
    ·rw [if_pos c1,if_pos (show p.y < ((r.corner j).y:Rat) by grind)]
     rfl
    ·rw [if_neg c1,if_neg (show ¬ p.y < ((r.corner j).y:Rat) by grind)]
     rfl
 rw [sm_sub,sm_add,t,← e] at ev
 have ev:(((r.lines.filter (crosses p)).length:Int)+SP r.corner r.n p.x p.y - 0) % 2=0:=ev
 simp only [beq_iff_eq]
 omega
theorem within_iff {r:Room} (F:Fine r) (p:Pt):r.within p=true↔(∀ i,i < r.n->¬ OnP r.corner i p.x p.y)/\SP r.corner r.n p.x p.y % 2=1:=by
 unfold Room.within
 rw [Bool.and_eq_true]
 have e:(!(r.lines.any fun (l:Pt×Pt)=>onLine l p))=true↔∀ i,i < r.n->¬ OnP r.corner i p.x p.y:=by
  rw [Bool.not_eq_true',← Bool.not_eq_true,List.any_eq_true]
  unfold Room.lines
  constructor
  ·intro h i hi o
   exact h ⟨_,List.mem_map.mpr ⟨i,List.mem_range.mpr hi,rfl⟩,(onLine_iff F i p).mpr o⟩
  ·rintro h ⟨l,hl,o⟩
   obtain ⟨i,hi,rfl⟩:=List.mem_map.mp hl
   exact h i (List.mem_range.mp hi) ((onLine_iff F i p).mp o)
 rw [e]
 constructor
 ·rintro ⟨a,b⟩
  exact ⟨a,(odd_iff F a).mp b⟩
 ·rintro ⟨a,b⟩
  exact ⟨a,(odd_iff F a).mpr b⟩
end Wm
namespace Wm
open Eh
theorem cross_pt {ax ay bx by_ px py qx qy:Rat} (c:lfR ax ay bx by_ px py*lfR ax ay bx by_ qx qy<=0) (d:lfR px py qx qy ax ay*lfR px py qx qy bx by_<=0) (ne:lfR ax ay bx by_ px py≠lfR ax ay bx by_ qx qy) :
  ∃ t:Rat,0<=t/\t<=1/\t*(lfR ax ay bx by_ px py - lfR ax ay bx by_ qx qy)=lfR ax ay bx by_ px py/\OnQ ax ay bx by_ (px+t*(qx - px)) (py+t*(qy - py)):=by
 have df:=lf_diff ax ay bx by_ px py qx qy
 have e:lfR px py qx qy ax ay≠lfR px py qx qy bx by_:=by grind
 obtain ⟨s,s0,s1,s2,s3⟩:=part_of d e
 obtain ⟨t,t0,t1,t2,t3⟩:=part_of c ne
 have D:lfR ax ay bx by_ px py - lfR ax ay bx by_ qx qy≠0:=by grind
 refine ⟨t,t0,t1,t3,s,s0,s1,?_,?_⟩
 ·refine mul_cancel D ?_
  have e1:(lfR ax ay bx by_ px py - lfR ax ay bx by_ qx qy)*(t*(qx - px))=lfR ax ay bx by_ px py*(qx - px):=by grind
  have e2:(lfR ax ay bx by_ px py - lfR ax ay bx by_ qx qy)*(s*(bx - ax))=-(lfR px py qx qy ax ay)*(bx - ax):=by grind
  have e3:(lfR ax ay bx by_ px py - lfR ax ay bx by_ qx qy)*ax + -(lfR px py qx qy ax ay)*(bx - ax)=(lfR ax ay bx by_ px py - lfR ax ay bx by_ qx qy)*px+lfR ax ay bx by_ px py*(qx - px):=by
   unfold lfR
   grind
  grind
 ·refine mul_cancel D ?_
  have e1:(lfR ax ay bx by_ px py - lfR ax ay bx by_ qx qy)*(t*(qy - py))=lfR ax ay bx by_ px py*(qy - py):=by grind
  have e2:(lfR ax ay bx by_ px py - lfR ax ay bx by_ qx qy)*(s*(by_ - ay))=-(lfR px py qx qy ax ay)*(by_ - ay):=by grind
  have e3:(lfR ax ay bx by_ px py - lfR ax ay bx by_ qx qy)*ay + -(lfR px py qx qy ax ay)*(by_ - ay)=(lfR ax ay bx by_ px py - lfR ax ay bx by_ qx qy)*py+lfR ax ay bx by_ px py*(qy - py):=by
   unfold lfR
   grind
  grind
def Hits (P:Nat->Corner) (j:Nat) (px py qx qy:Rat):Prop:=∃ t:Rat,0 < t/\t < 1/\OnP P j (px+t*(qx - px)) (py+t*(qy - py))
def CutR (P:Nat->Corner) (j:Nat) (px py qx qy:Rat):Prop:=lfP P j px py*lfP P j qx qy < 0/\lfR px py qx qy (P j).x (P j).y*lfR px py qx qy (P (j+1)).x (P (j+1)).y<=0
theorem cut_hits {P:Nat->Corner} {j:Nat} {px py qx qy:Rat} (h:CutR P j px py qx qy):Hits P j px py qx qy:=by
 obtain ⟨h1,h2⟩:=h
 have nz:lfP P j px py≠lfP P j qx qy:=fun e=>by
  rw [e] at h1
  rcases (show lfP P j qx qy<=0\/0<=lfP P j qx qy by grind) with z | z
  ·have:=mpp z z
   grind
  ·have:=mnn z z
   grind
 obtain ⟨t,t0,t1,t2,t3⟩:=cross_pt (show lfP P j px py*lfP P j qx qy<=0 by grind) h2 nz
 refine ⟨t,?_,?_,t3⟩
 ·rcases (show t=0\/0 < t by grind) with z | z
  ·rw [z] at t2
   have:lfP P j px py=0:=by
    show lfR (P j).x (P j).y (P (j+1)).x (P (j+1)).y px py=0
    grind
   rw [this] at h1
   grind
  ·exact z
 ·rcases (show t=1\/t < 1 by grind) with z | z
  ·rw [z] at t2
   have:lfP P j qx qy=0:=by
    show lfR (P j).x (P j).y (P (j+1)).x (P (j+1)).y qx qy=0
    grind
   rw [this] at h1
   grind
  ·exact z
theorem hits_cut {P:Nat->Corner} {j:Nat} {px py qx qy:Rat} (h:Hits P j px py qx qy) (ne:lfP P j px py≠lfP P j qx qy):CutR P j px py qx qy:=by
 obtain ⟨t,t0,t1,o⟩:=h
 have l:=lf_on o
 rw [lf_at] at l
 have l:(1 - t)*lfP P j px py+t*lfP P j qx qy=0:=l
 refine ⟨?_,?_⟩
 ·have k:=opp_of (show 0<=t by grind) (show t<=1 by grind) l
  rcases (show lfP P j px py*lfP P j qx qy < 0\/lfP P j px py*lfP P j qx qy=0 by grind) with z | z
  ·exact z
  ·exfalso
   rcases Rat.mul_eq_zero.mp z with y | y
   ·rw [y] at l
    have:t*lfP P j qx qy=0:=by grind
    rcases Rat.mul_eq_zero.mp this with x | x <;> grind
   ·rw [y] at l
    have:(1 - t)*lfP P j px py=0:=by grind
    rcases Rat.mul_eq_zero.mp this with x | x <;> grind
 ·obtain ⟨s,s0,s1,e1,e2⟩:=o
  have z:lfR px py qx qy (px+t*(qx - px)) (py+t*(qy - py))=0:=by
   unfold lfR
   grind
  rw [e1,e2,lf_at] at z
  exact opp_of s0 s1 z
section
variable {P:Nat->Corner} {n:Nat}
theorem line_at {ax ay bx by_ px py:Rat} (ne:ax≠bx\/ay≠by_) (l1:lfR ax ay bx by_ px py=0):∃ α:Rat,px=ax + α * (bx - ax)/\py=ay + α * (by_ - ay):=by
 unfold lfR at l1
 rcases ne with ne | ne
 ·have hd:bx - ax≠0:=by grind
  have e:(px - ax) / (bx - ax)*(bx - ax)=px - ax:=Rat.div_mul_cancel hd
  refine ⟨(px - ax) / (bx - ax),by grind,mul_cancel hd ?_⟩
  generalize (px - ax) / (bx - ax)=u at *
  grind
 ·have hd:by_ - ay≠0:=by grind
  have e:(py - ay) / (by_ - ay)*(by_ - ay)=py - ay:=Rat.div_mul_cancel hd
  refine ⟨(py - ay) / (by_ - ay),mul_cancel hd ?_,by grind⟩
  generalize (py - ay) / (by_ - ay)=u at *
  grind
theorem along_corner {ax ay bx by_ px py qx qy t:Rat} (ne:ax≠bx\/ay≠by_) (t0:0 < t) (t1:t < 1) (l1:lfR ax ay bx by_ px py=0) (l2:lfR ax ay bx by_ qx qy=0) (o:OnQ ax ay bx by_ (px+t*(qx - px)) (py+t*(qy - py))) (np:¬ OnQ ax ay bx by_ px py) :
  ∃ u:Rat,0 < u/\u < 1/\((ax=px+u*(qx - px)/\ay=py+u*(qy - py))\/(bx=px+u*(qx - px)/\by_=py+u*(qy - py))):=by
 obtain ⟨α,ha1,ha2⟩:=line_at ne l1
 obtain ⟨β,hb1,hb2⟩:=line_at ne l2
 -- the common point's place
 have hγ:0<=α + t*(β - α)/\α + t*(β - α)<=1:=by
  obtain ⟨s,s0,s1,e1,e2⟩:=o
  have:s = α + t*(β - α):=by
   rcases ne with ne | ne
   ·refine mul_cancel (show bx - ax≠0 by grind) ?_
    grind
   ·refine mul_cancel (show by_ - ay≠0 by grind) ?_
    grind
  rw [← this]
  exact ⟨s0,s1⟩
 have nα:¬ (0<=α/\α<=1):=fun z=>np ⟨α,z.1,z.2,ha1,ha2⟩
 rcases (show α < 0\/1 < α by grind) with c | c
 ·-- it comes from before a
  have hβ:0 < β - α:=by
   have:0 < t*(β - α):=by grind
   exact pos_of_mul t0 this
  have hd:β - α≠0:=by grind
  have e:(-α) / (β - α)*(β - α)=-α:=Rat.div_mul_cancel hd
  have e':(t - (-α) / (β - α))*(β - α)=t*(β - α) + α:=by grind
  refine ⟨(-α) / (β - α),pos_of_mul hβ (by grind),?_,.inl ⟨?_,?_⟩⟩
  ·rcases (show (-α) / (β - α)<=t\/t < (-α) / (β - α) by grind) with z | z
   ·grind
   ·have:=Rat.mul_pos (show 0 < (-α) / (β - α) - t by grind) hβ
    grind
  ·rw [ha1,hb1]
   generalize (-α) / (β - α)=u at *
   have:u*(β - α)*(bx - ax)=-α * (bx - ax):=by rw [e]
   grind
  ·rw [ha2,hb2]
   generalize (-α) / (β - α)=u at *
   have:u*(β - α)*(by_ - ay)=-α * (by_ - ay):=by rw [e]
   grind
 ·have hβ:0 < α - β:=by
   have:0 < t*(α - β):=by grind
   exact pos_of_mul t0 this
  have hd:α - β≠0:=by grind
  have e:(α - 1) / (α - β)*(α - β) = α - 1:=Rat.div_mul_cancel hd
  refine ⟨(α - 1) / (α - β),pos_of_mul hβ (by grind),?_,.inr ⟨?_,?_⟩⟩
  ·rcases (show (α - 1) / (α - β)<=t\/t < (α - 1) / (α - β) by grind) with z | z
   ·grind
   ·have:=Rat.mul_pos (show 0 < (α - 1) / (α - β) - t by grind) hβ
    grind
  ·rw [ha1,hb1]
   generalize (α - 1) / (α - β)=u at *
   have:u*(α - β)*(bx - ax)=(α - 1)*(bx - ax):=by rw [e]
   grind
  ·rw [ha2,hb2]
   generalize (α - 1) / (α - β)=u at *
   have:u*(α - β)*(by_ - ay)=(α - 1)*(by_ - ay):=by rw [e]
   grind
theorem Poly.no_hit (h:Poly P n) {px py qx qy:Rat} (nc:∀ j,j < n->¬ CutR P j px py qx qy) (np:∀ j,j < n->lfP P j px py=lfP P j qx qy->¬ OnP P j px py):∀ j,j < n->¬ Hits P j px py qx qy:=by
 intro j hj hit
 by_cases e:lfP P j px py=lfP P j qx qy
 · obtain ⟨t, t0, t1, o⟩ := hit
   have l:=lf_on o
   rw [lf_at] at l
   have l:(1 - t)*lfP P j px py+t*lfP P j qx qy=0:=l
   have z1:lfP P j px py=0:=by
     rw [← e] at l
     grind
   have z2:lfP P j qx qy=0:=by rw [← e]; exact z1
   obtain ⟨u,u0,u1,k⟩:=along_corner (h.ne j) t0 t1 z1 z2 o (np j hj e)
   have n3:=h.n3
   -- p and q are two points of the plan
   have pq:px≠qx\/py≠qy:=by
     by_cases a:px=qx
     · by_cases b : py = qy
       · exfalso
         have:OnP P j px py:=by
           rw [a,b] at o ⊢
           have e1:qx+t*(qx - qx)=qx:=by grind
           have e2:qy+t*(qy - qy)=qy:=by grind
           rw [e1,e2] at o
           exact o
         exact np j hj e this
       · exact .inr b
     · exact .inl a
   have nb:∀ {a b d:Corner},alongC a b b d=false->lfR a.x a.y b.x b.y px py=0->lfR a.x a.y b.x b.y qx qy=0->lfR b.x b.y d.x d.y px py≠lfR b.x b.y d.x d.y qx qy:=fun {a b d} al y1 y2 z=>by
     have D:((b.x:Rat) - a.x)*(d.y - b.y) - (b.y - a.y)*(d.x - b.x)≠0:=by
       unfold alongC at al
       have:(b.x - a.x)*(d.y - b.y) - (b.y - a.y)*(d.x - b.x)≠0:=by simpa using al
       intro z
       apply this
       have z:(((b.x - a.x)*(d.y - b.y) - (b.y - a.y)*(d.x - b.x):Int):Rat)=((0:Int):Rat):=by
         simp
         exact z
       exact Rat.intCast_inj.mp z
     unfold lfR at y1 y2 z
     have k1:(((b.x:Rat) - a.x)*(d.y - b.y) - (b.y - a.y)*(d.x - b.x))*(qx - px)=0:=by grind
     have k2:(((b.x:Rat) - a.x)*(d.y - b.y) - (b.y - a.y)*(d.x - b.x))*(qy - py)=0:=by grind
     rcases pq with c | c
     · rcases Rat.mul_eq_zero.mp k1 with x | x
       · exact D x
       · grind
     · rcases Rat.mul_eq_zero.mp k2 with x | x
       · exact D x
       · grind
   rcases k with ⟨k1,k2⟩ | ⟨k1,k2⟩
   · -- the corner behind: the line before j
     obtain ⟨i,hi,e1⟩:∃ i,i < n/\(i+1) % n=j:=by
       by_cases c:j=0
       · exact ⟨n - 1,by omega,by rw [c,show n - 1+1=n by omega,Nat.mod_self]⟩
       · exact ⟨j - 1,by omega,by rw [show j - 1+1=j by omega,Nat.mod_eq_of_lt hj]⟩
     have p1:P j=P (i+1):=by rw [← e1,h.mod]
     have p2:P (j+1)=P (i+2):=by rw [← e1,h.mod1]
     have ne:lfP P i px py≠lfP P i qx qy:=fun z=>by
       have al:=h.bend i
       have al':alongC (P (i+2)) (P (i+1)) (P (i+1)) (P i)=false:=by
         unfold alongC at al ⊢
         simp only [beq_eq_false_iff_ne,ne_eq] at al ⊢
         intro w
         apply al
         grind
       unfold lfP at z1 z2
       rw [p1,p2] at z1 z2
       refine nb al' ?_ ?_ ?_
       · rw [lfR_swap,z1]
         grind
       · rw [lfR_swap,z2]
         grind
       · unfold lfP at z
         rw [lfR_swap (P i).x (P i).y,lfR_swap (P i).x (P i).y,z]
     refine nc i hi (hits_cut ⟨u,u0,u1,?_⟩ ne)
     rw [← k1,← k2]
     unfold OnP OnE
     rw [← p1]
     exact ⟨1,by grind,by grind,by grind,by grind⟩
   · -- the corner ahead: the line behind j
     have hi:(j+1) % n < n:=Nat.mod_lt _ (by omega)
     have p1:P ((j+1) % n)=P (j+1):=h.mod _
     have p2:P ((j+1) % n+1)=P (j+2):=h.mod1 _
     refine nc _ hi (hits_cut ⟨u,u0,u1,?_⟩ ?_)
     · rw [← k1,← k2]
       unfold OnP OnE
       rw [p1]
       exact ⟨0,by grind,by grind,by grind,by grind⟩
     · unfold lfP
       rw [p1,p2]
       exact nb (h.bend j) z1 z2
 ·exact nc j hj (hits_cut hit e)
end
theorem touches_iff {r:Room} (F:Fine r) (i:Nat) (p q:Pt):touches p q (r.line i)=true↔Hits r.corner i p.x p.y q.x q.y:=by
 by_cases ne:left (r.line i).1 (r.line i).2 p=left (r.line i).1 (r.line i).2 q
 ·-- alongside
  have hd:turn (q.x - p.x) (q.y - p.y) ((r.line i).2.x - (r.line i).1.x) ((r.line i).2.y - (r.line i).1.y)=0:=by
   have:turn (q.x - p.x) (q.y - p.y) ((r.line i).2.x - (r.line i).1.x) ((r.line i).2.y - (r.line i).1.y)=left (r.line i).1 (r.line i).2 p - left (r.line i).1 (r.line i).2 q:=by
    simp only [turn,left]
    grind
   rw [this,ne]
   grind
  unfold touches
  simp only [hd,ne_eq,not_true_eq_false,if_false]
  have hn:=F.pol.ne i
  have nl:((r.line i).1.x≠(r.line i).2.x\/(r.line i).1.y≠(r.line i).2.y):=hn
  by_cases pq:q.x - p.x=0/\q.y - p.y=0
  ·have t0:turn ((r.line i).1.x - p.x) ((r.line i).1.y - p.y) (q.x - p.x) (q.y - p.y)=0:=by
    rw [pq.1,pq.2]
    unfold turn
    grind
   simp only [t0,not_true_eq_false,if_false]
   rw [if_pos pq,onLine_iff F]
   constructor
   ·intro o
    refine ⟨1 / 2,by grind,by grind,?_⟩
    rw [pq.1,pq.2]
    have e1:p.x+1 / 2*0=p.x:=by grind
    have e2:p.y+1 / 2*0=p.y:=by grind
    rw [e1,e2]
    exact o
   ·rintro ⟨t,_,_,o⟩
    rw [pq.1,pq.2] at o
    have e1:p.x+t*0=p.x:=by grind
    have e2:p.y+t*0=p.y:=by grind
    rw [e1,e2] at o
    exact o
  · by_cases z : turn ((r.line i).1.x - p.x) ((r.line i).1.y - p.y) (q.x - p.x) (q.y - p.y) = 0
    · simp only [z,not_true_eq_false,if_false]
      rw [if_neg pq]
      -- all on one line
      have hs:0 < (q.x - p.x)*(q.x - p.x)+(q.y - p.y)*(q.y - p.y):=by
        have sq:∀ a:Rat,0<=a*a:=fun a=>by
          rcases (show a<=0\/0<=a by grind) with y | y
          · exact mpp y y
          · exact mnn y y
        have sqp:∀ a:Rat,a≠0->0 < a*a:=fun a ha=>by
          rcases (show a < 0\/0 < a by grind) with y | y
          · have:=Rat.mul_pos (show 0 < -a by grind) (show 0 < -a by grind)
            grind
          · exact Rat.mul_pos y y
        have s1:=sq (q.x - p.x)
        have s2:=sq (q.y - p.y)
        by_cases y:q.x - p.x=0
        · have:=sqp (q.y - p.y) fun w=>pq ⟨y,w⟩
          grind
        · have:=sqp (q.x - p.x) y
          grind
      generalize hS:(q.x - p.x)*(q.x - p.x)+(q.y - p.y)*(q.y - p.y)=S at hs
      have hS0:S≠0:=by grind
      have place:∀ v:Pt,turn (v.x - p.x) (v.y - p.y) (q.x - p.x) (q.y - p.y)=0->v.x=p.x+((v.x - p.x)*(q.x - p.x)+(v.y - p.y)*(q.y - p.y)) / S*(q.x - p.x)/\v.y=p.y+((v.x - p.x)*(q.x - p.x)+(v.y - p.y)*(q.y - p.y)) / S*(q.y - p.y):=fun v hv=>by
        have e:((v.x - p.x)*(q.x - p.x)+(v.y - p.y)*(q.y - p.y)) / S*S=(v.x - p.x)*(q.x - p.x)+(v.y - p.y)*(q.y - p.y):=Rat.div_mul_cancel hS0
        unfold turn at hv
        generalize ((v.x - p.x)*(q.x - p.x)+(v.y - p.y)*(q.y - p.y)) / S=u at *
        constructor
        · refine mul_cancel hS0 ?_
          have:S*(p.x+u*(q.x - p.x))=S*p.x+(u*S)*(q.x - p.x):=by grind
          rw [this,e,← hS]
          grind
        · refine mul_cancel hS0 ?_
          have:S*(p.y+u*(q.y - p.y))=S*p.y+(u*S)*(q.y - p.y):=by grind
          rw [this,e,← hS]
          grind
      have z2:turn ((r.line i).2.x - p.x) ((r.line i).2.y - p.y) (q.x - p.x) (q.y - p.y)=0:=by
        unfold turn at z hd ⊢
        grind
      have pa:=place _ z
      have pb:=place _ z2
      generalize ((((r.line i).1.x - p.x)*(q.x - p.x)+((r.line i).1.y - p.y)*(q.y - p.y)) / S)=ta at pa ⊢
      generalize ((((r.line i).2.x - p.x)*(q.x - p.x)+((r.line i).2.y - p.y)*(q.y - p.y)) / S)=tb at pb ⊢
      have tab:ta≠tb:=fun w=>by
        rw [w] at pa
        rcases nl with y | y
        · exact y (pa.1.trans pb.1.symm)
        · exact y (pa.2.trans pb.2.symm)
      have on:∀ t:Rat,min ta tb<=t->t<=max ta tb->OnP r.corner i (p.x+t*(q.x - p.x)) (p.y+t*(q.y - p.y)):=fun t h1 h2=>by
        obtain ⟨k1,k2,k3⟩:=frac_range tab ⟨h1,h2⟩
        refine ⟨_,k1,k2,?_,?_⟩
        · show p.x+t*(q.x - p.x)=(r.line i).1.x+(t - ta) / (tb - ta)*((r.line i).2.x - (r.line i).1.x)
          generalize (t - ta) / (tb - ta)=u at *
          rw [pa.1,pb.1,k3]
          grind
        · show p.y+t*(q.y - p.y)=(r.line i).1.y+(t - ta) / (tb - ta)*((r.line i).2.y - (r.line i).1.y)
          generalize (t - ta) / (tb - ta)=u at *
          rw [pa.2,pb.2,k3]
          grind
      rw [Bool.and_eq_true,decide_eq_true_iff,decide_eq_true_iff]
      constructor
      · rintro ⟨h1,h2⟩
        rcases (show 0 < min ta tb\/min ta tb<=0 by grind) with y | y
        · exact ⟨min ta tb,y,h1,on _ (by grind) (by grind)⟩
        · rcases (show max ta tb < 1\/1<=max ta tb by grind) with x | x
          · exact ⟨max ta tb,h2,x,on _ (by grind) (by grind)⟩
          · exact ⟨1 / 2,by grind,by grind,on _ (by grind) (by grind)⟩
      · rintro ⟨t,t0,t1,s,s0,s1,e1,e2⟩
        have e1:p.x+t*(q.x - p.x)=(r.line i).1.x+s*((r.line i).2.x - (r.line i).1.x):=e1
        have e2:p.y+t*(q.y - p.y)=(r.line i).1.y+s*((r.line i).2.y - (r.line i).1.y):=e2
        have et:t=ta+s*(tb - ta):=by
          rw [pa.1,pb.1] at e1
          rw [pa.2,pb.2] at e2
          by_cases y:q.x - p.x=0
          · refine mul_cancel (show q.y - p.y≠0 from fun w=>pq ⟨y,w⟩) ?_
            grind
          · refine mul_cancel y ?_
            grind
        have:=on_range s0 s1 et
        constructor <;> grind
    · simp only [z,not_false_eq_true,if_true]
      constructor
      · intro w
        cases w
      · rintro ⟨t,t0,t1,o⟩
        exfalso
        apply z
        have l:=lf_on o
        rw [lf_at] at l
        have l:(1 - t)*left (r.line i).1 (r.line i).2 p+t*left (r.line i).1 (r.line i).2 q=0:=l
        rw [← ne] at l
        have zp:left (r.line i).1 (r.line i).2 p=0:=by grind
        have zq:left (r.line i).1 (r.line i).2 q=0:=by rw [← ne]; exact zp
        unfold left at zp zq
        unfold turn at hd ⊢
        rcases nl with y | y
        · refine mul_cancel (show (r.line i).2.x - (r.line i).1.x≠0 by grind) ?_
          grind
        · refine mul_cancel (show (r.line i).2.y - (r.line i).1.y≠0 by grind) ?_
          grind
 ·rw [touches_cross ne,Bool.and_eq_true,decide_eq_true_iff,decide_eq_true_iff]
  constructor
  ·intro h
   exact cut_hits (P:=r.corner) (j:=i) (px:=p.x) (py:=p.y) (qx:=q.x) (qy:=q.y) h
  ·intro h
   exact hits_cut h ne
end Wm
namespace Wm
open Eh
theorem Hits.swap {P:Nat->Corner} {j:Nat} {px py qx qy:Rat} (h:Hits P j px py qx qy):Hits P j qx qy px py:=by
 obtain ⟨t,t0,t1,o⟩:=h
 refine ⟨1 - t,by grind,by grind,?_⟩
 have e1:qx+(1 - t)*(px - qx)=px+t*(qx - px):=by grind
 have e2:qy+(1 - t)*(py - qy)=py+t*(qy - py):=by grind
 rw [e1,e2]
 exact o
theorem CutR.swap {P:Nat->Corner} {j:Nat} {px py qx qy:Rat} (h:CutR P j px py qx qy):CutR P j qx qy px py:=by
 unfold CutR at *
 rw [lfR_swap px py qx qy,lfR_swap px py qx qy]
 constructor
 ·grind
 ·grind
abbrev CutF (r:Room) (p q:Pt):Prop:=∀ j,j < r.n->¬ CutR r.corner j p.x p.y q.x q.y
theorem CutF.swap {r:Room} {p q:Pt} (h:CutF r p q):CutF r q p:=fun j hj c=>h j hj c.swap
def half (p q:Pt):Pt:=onWay p q (1 / 2)
theorem clear_iff {r:Room} (F:Fine r) (p q:Pt):r.clear p q=true↔p=q\/((∀ j,j < r.n->¬ Hits r.corner j p.x p.y q.x q.y)/\r.inside (half p q)=true):=by
 unfold Room.clear half
 rw [Bool.or_eq_true,Bool.and_eq_true,beq_iff_eq]
 have e:(!(r.lines.any (touches p q)))=true↔∀ j,j < r.n->¬ Hits r.corner j p.x p.y q.x q.y:=by
  rw [Bool.not_eq_true',← Bool.not_eq_true,List.any_eq_true]
  unfold Room.lines
  constructor
  ·intro h i hi o
   exact h ⟨_,List.mem_map.mpr ⟨i,List.mem_range.mpr hi,rfl⟩,(touches_iff F i p q).mpr o⟩
  ·rintro h ⟨l,hl,o⟩
   obtain ⟨i,hi,rfl⟩:=List.mem_map.mp hl
   exact h i (List.mem_range.mp hi) ((touches_iff F i p q).mp o)
 rw [e]
theorem inside_iff {r:Room} (p:Pt):r.inside p=true↔r.within p=true/\0 < p.z/\p.z < r.h:=by
 unfold Room.inside
 simp
theorem clear_cut {r:Room} (F:Fine r) {p q:Pt} (h:r.clear p q=true):CutF r p q:=by
 intro j hj c
 rcases (clear_iff F p q).mp h with e | e
 ·subst e
  have c:=c.1
  rcases (show lfP r.corner j p.x p.y<=0\/0<=lfP r.corner j p.x p.y by grind) with z | z
  ·have:=mpp z z
   grind
  ·have:=mnn z z
   grind
 ·exact e.1 j hj (cut_hits c)
theorem off_half {r:Room} {p q:Pt} (nh:∀ j,j < r.n->¬ Hits r.corner j p.x p.y q.x q.y) {j:Nat} (hj:j < r.n) (np:¬ OnP r.corner j p.x p.y):Off r.corner j p.x p.y (half p q).x (half p q).y:=by
 rintro X Y o ⟨u,u0,u1,rfl,rfl⟩
 rcases (show u=0\/0 < u by grind) with z | z
 ·subst z
  have e1:p.x+0*((half p q).x - p.x)=p.x:=by grind
  have e2:p.y+0*((half p q).y - p.y)=p.y:=by grind
  rw [e1,e2] at o
  exact np o
 ·refine nh j hj ⟨u / 2,by grind,by grind,?_⟩
  have e1:p.x+u*((half p q).x - p.x)=p.x+u / 2*(q.x - p.x):=by
   show p.x+u*(p.x+1 / 2*(q.x - p.x) - p.x)=_
   grind
  have e2:p.y+u*((half p q).y - p.y)=p.y+u / 2*(q.y - p.y):=by
   show p.y+u*(p.y+1 / 2*(q.y - p.y) - p.y)=_
   grind
  rw [e1,e2] at o
  exact o
theorem half_off {r:Room} {p q:Pt} (nh:∀ j,j < r.n->¬ Hits r.corner j p.x p.y q.x q.y) {j:Nat} (hj:j < r.n):¬ OnP r.corner j (half p q).x (half p q).y:=fun o=>nh j hj ⟨1 / 2,by grind,by grind,o⟩
theorem half_left (r:Room) (w:Nat) (p q:Pt) (h:lfP r.corner w p.x p.y=0):lfP r.corner w (half p q).x (half p q).y=1 / 2*lfP r.corner w q.x q.y:=by
 show lfR _ _ _ _ (p.x+1 / 2*(q.x - p.x)) (p.y+1 / 2*(q.y - p.y))=_
 rw [lf_at]
 have h:lfR (r.corner w).x (r.corner w).y (r.corner (w+1)).x (r.corner (w+1)).y p.x p.y=0:=h
 rw [h]
 show (1 - 1 / 2)*0+1 / 2*lfP r.corner w q.x q.y=_
 grind
theorem clear_side {r:Room} (F:Fine r) {w:Nat} (hw:w < r.n) {p q:Pt} (hp:InP r.corner w p.x p.y) (hq:lfP r.corner w q.x q.y≠0) (h:r.clear q p=true):0 < lfP r.corner w q.x q.y:=by
 have lp:=lf_on hp.on
 rcases (clear_iff F q p).mp h with e | ⟨nh,ins⟩
 ·rw [e] at hq
  exact absurd lp hq
 ·have nh':∀ j,j < r.n->¬ Hits r.corner j p.x p.y q.x q.y:=fun j hj z=>nh j hj z.swap
  have eh:half q p=half p q:=by
   unfold half onWay
   simp only [Pt.mk.injEq]
   refine ⟨?_,?_,?_⟩ <;> grind
  rw [eh] at ins
  have wi:=(within_iff F _).mp ((inside_iff _).mp ins).1
  have hl:=half_left r w p q lp
  have b:=F.pol.beside F.hx F.neg hw hp (mx:=(half p q).x) (my:=(half p q).y) (by rw [hl]; grind) fun j hj hne=>off_half nh' hj fun o=>F.pol.within_one hw hj hne hp o
  have o:=wi.2
  rw [b,hl] at o
  by_cases z:0 < 1 / 2*lfP r.corner w q.x q.y
  ·grind
  ·rw [if_neg z] at o
   simp at o
theorem cut_clear {r:Room} (F:Fine r) {p q:Pt} (nc:CutF r p q) (hp:r.within p=true\/∃ w,w < r.n/\InP r.corner w p.x p.y/\0 < lfP r.corner w q.x q.y) (hz:0 < (half p q).z/\(half p q).z < r.h):r.clear p q=true:=by
 rw [clear_iff F]
 refine .inr ?_
 have nh:∀ j,j < r.n->¬ Hits r.corner j p.x p.y q.x q.y:=F.pol.no_hit nc fun j hj e o=>by
  rcases hp with hp | ⟨w,hw,hp,hq⟩
  ·exact ((within_iff F p).mp hp).1 j hj o
  · by_cases c : j = w
    · subst c
      have:=lf_on o
      have:lfP r.corner j p.x p.y=0:=this
      grind
    · exact F.pol.within_one hw hj c hp o
 refine ⟨nh,(inside_iff _).mpr ⟨(within_iff F _).mpr ⟨fun j hj=>half_off nh hj,?_⟩,hz⟩⟩
 rcases hp with hp | ⟨w,hw,hp,hq⟩
 ·have wi:=(within_iff F p).mp hp
  rw [← F.pol.still fun j hj=>off_half nh hj (wi.1 j hj)]
  exact wi.2
 ·have hl:=half_left r w p q (lf_on hp.on)
  have b:=F.pol.beside F.hx F.neg hw hp (mx:=(half p q).x) (my:=(half p q).y) (by rw [hl]; grind) fun j hj hne=>off_half nh hj fun o=>F.pol.within_one hw hj hne hp o
  rw [b,hl,if_pos (by grind)]
  rfl
theorem clear_symm {r:Room} (F:Fine r) {p q:Pt} (h:r.clear p q=true):r.clear q p=true:=by
 rcases (clear_iff F p q).mp h with e | ⟨nh,ins⟩
 ·rw [clear_iff F]
  exact .inl e.symm
 ·rw [clear_iff F]
  refine .inr ⟨fun j hj z=>nh j hj z.swap,?_⟩
  have eh:half q p=half p q:=by
   unfold half onWay
   simp only [Pt.mk.injEq]
   refine ⟨?_,?_,?_⟩ <;> grind
  rw [eh]
  exact ins
theorem inWall_side {r:Room} (F:Fine r) {w:Nat} (hw:w < r.n) (p:Pt):r.inWall w p=true↔InP r.corner w p.x p.y/\0 < p.z/\p.z < r.h:=by
 unfold Room.inWall
 rw [if_pos hw,Bool.and_eq_true,Bool.and_eq_true,Bool.and_eq_true,onLine_iff F,decide_eq_true_iff,decide_eq_true_iff]
 have e:(!isEnd (r.line w) p)=true↔¬ ((p.x=((r.corner w).x:Rat)/\p.y=((r.corner w).y:Rat))\/(p.x=((r.corner (w+1)).x:Rat)/\p.y=((r.corner (w+1)).y:Rat))):=by
  unfold isEnd
  rw [Bool.not_eq_true',← Bool.not_eq_true,Bool.or_eq_true,Bool.and_eq_true,Bool.and_eq_true,beq_iff_eq,beq_iff_eq,beq_iff_eq,beq_iff_eq]
  rfl
 rw [e]
 constructor
 ·rintro ⟨⟨t,t0,t1,e1,e2⟩,ne,z⟩
  refine ⟨⟨t,?_,?_,e1,e2⟩,z⟩
  ·rcases (show t=0\/0 < t by grind) with y | y
   ·subst y
    exact absurd (.inl ⟨by rw [e1]; grind,by rw [e2]; grind⟩) ne
   ·exact y
  ·rcases (show t=1\/t < 1 by grind) with y | y
   ·subst y
    exact absurd (.inr ⟨by rw [e1]; grind,by rw [e2]; grind⟩) ne
   ·exact y
 ·rintro ⟨o,z⟩
  have ne:=o.not_end (F.pol.ne w)
  exact ⟨o.on,fun y=>y.elim ne.1 ne.2,z⟩
theorem inWall_flat {r:Room} {w:Nat} (hw:¬ w < r.n) (p:Pt):r.inWall w p=true↔r.within p=true/\p.z=(if w=r.n then 0 else (r.h:Rat)):=by
 unfold Room.inWall
 rw [if_neg hw,Bool.and_eq_true]
 by_cases c:w=r.n
 ·rw [if_pos c,if_pos c,beq_iff_eq]
 ·rw [if_neg c,if_neg c,beq_iff_eq]
def Hq (r:Room) (w:Nat) (p:Pt):Rat:=if w < r.n then lfP r.corner w p.x p.y else if w=r.n then p.z else r.h - p.z
theorem Hq_way (r:Room) (w:Nat) (p q:Pt) (t:Rat):Hq r w (onWay p q t)=(1 - t)*Hq r w p+t*Hq r w q:=by
 unfold Hq
 by_cases c:w < r.n
 ·rw [if_pos c,if_pos c,if_pos c]
  exact lf_at
 ·rw [if_neg c,if_neg c,if_neg c]
  by_cases d:w=r.n
  ·rw [if_pos d,if_pos d,if_pos d]
   show p.z+t*(q.z - p.z)=_
   grind
  ·rw [if_neg d,if_neg d,if_neg d]
   show r.h - (p.z+t*(q.z - p.z))=_
   grind
theorem dirs {r:Room} (F:Fine r) (w:Nat):let a:=r.corner w; let b:=r.corner (w+1); (a.x=b.x/\a.y≠b.y)\/(a.x≠b.x/\a.y=b.y)\/(a.x≠b.x/\a.y≠b.y/\b.x - a.x=b.y - a.y)\/(a.x≠b.x/\a.y≠b.y/\b.x - a.x≠b.y - a.y/\b.x - a.x=-(b.y - a.y)):=by
 obtain ⟨u,v,L,hu,hL,hx,hy⟩:=dir_unit (F.pol.dir w)
 simp only
 rcases hu with ⟨rfl,rfl⟩ | ⟨rfl,rfl⟩ | ⟨rfl,rfl⟩ | ⟨rfl,rfl⟩
 ·exact .inr (.inl ⟨by omega,by omega⟩)
 ·exact .inl ⟨by omega,by omega⟩
 ·exact .inr (.inr (.inl ⟨by omega,by omega,by omega⟩))
 ·exact .inr (.inr (.inr ⟨by omega,by omega,by omega,by omega⟩))
theorem mirror_all {r:Room} (F:Fine r) (w:Nat) (p:Pt):Hq r w (r.mirror w p)=-Hq r w p/\r.mirror w (r.mirror w p)=p/\(Hq r w p=0->r.mirror w p=p)/\∀ q t,r.mirror w (onWay p q t)=onWay (r.mirror w p) (r.mirror w q) t:=by
 unfold Hq Room.mirror
 by_cases c:w < r.n
 ·simp only [if_pos c]
  unfold Room.line Corner.at_ lfP lfR onWay
  simp only [r_eq]
  have D:=dirs F w
  simp only at D
  generalize r.corner w=a at *
  generalize r.corner (w+1)=b at *
  rcases D with ⟨d1,d2⟩ | ⟨d1,d2⟩ | ⟨d1,d2,d3⟩ | ⟨d1,d2,d3,d4⟩
  ·have dr:(a.x:Rat)=b.x:=by rw [d1]
   have hd:(b.y:Rat) - a.y≠0:=fun z=>d2 (Rat.intCast_inj.mp (by grind))
   simp only [if_pos d1]
   refine ⟨by grind,?_,fun z=>?_,fun q t=>?_⟩
   ·obtain ⟨px,py,pz⟩:=p
    simp only [Pt.mk.injEq,and_true]
    grind
   ·have:((b.y:Rat) - a.y)*(p.x - a.x)=0:=by grind
    rcases Rat.mul_eq_zero.mp this with y | y
    ·exact absurd y hd
    ·obtain ⟨px,py,pz⟩:=p
     simp only [Pt.mk.injEq,and_true] at *
     grind
   ·simp only [Pt.mk.injEq,and_true]
    grind
  ·have dr:(a.y:Rat)=b.y:=by rw [d2]
   have hd:(b.x:Rat) - a.x≠0:=fun z=>d1 (Rat.intCast_inj.mp (by grind))
   simp only [if_neg d1,if_pos d2]
   refine ⟨by grind,?_,fun z=>?_,fun q t=>?_⟩
   ·obtain ⟨px,py,pz⟩:=p
    simp only [Pt.mk.injEq,and_true,true_and]
    grind
   ·have:((b.x:Rat) - a.x)*(p.y - a.y)=0:=by grind
    rcases Rat.mul_eq_zero.mp this with y | y
    ·exact absurd y hd
    ·obtain ⟨px,py,pz⟩:=p
     simp only [Pt.mk.injEq,and_true,true_and] at *
     grind
   ·simp only [Pt.mk.injEq,and_true,true_and]
    grind
  ·have dr:(b.x:Rat) - a.x=b.y - a.y:=by rw [← Rat.intCast_sub,← Rat.intCast_sub,d3]
   have hd:(b.x:Rat) - a.x≠0:=fun z=>d1 (Rat.intCast_inj.mp (by grind))
   simp only [if_neg d1,if_neg d2,if_pos dr]
   refine ⟨by grind,?_,fun z=>?_,fun q t=>?_⟩
   ·obtain ⟨px,py,pz⟩:=p
    simp only [Pt.mk.injEq,and_true]
    constructor <;> grind
   ·have:((b.x:Rat) - a.x)*((p.y - a.y) - (p.x - a.x))=0:=by grind
    rcases Rat.mul_eq_zero.mp this with y | y
    ·exact absurd y hd
    ·obtain ⟨px,py,pz⟩:=p
     simp only [Pt.mk.injEq,and_true] at *
     constructor <;> grind
   ·simp only [Pt.mk.injEq,and_true]
    constructor <;> grind
  ·have dr:(b.x:Rat) - a.x=-(b.y - a.y):=by rw [← Rat.intCast_sub,← Rat.intCast_sub,d4,Rat.intCast_neg]
   have dn:¬ ((b.x:Rat) - a.x=b.y - a.y):=fun z=>d3 (by
    rw [← Rat.intCast_sub,← Rat.intCast_sub] at z
    exact Rat.intCast_inj.mp z)
   have hd:(b.x:Rat) - a.x≠0:=fun z=>d1 (Rat.intCast_inj.mp (by grind))
   simp only [if_neg d1,if_neg d2,if_neg dn]
   refine ⟨by grind,?_,fun z=>?_,fun q t=>?_⟩
   ·obtain ⟨px,py,pz⟩:=p
    simp only [Pt.mk.injEq,and_true]
    constructor <;> grind
   ·have:((b.x:Rat) - a.x)*((p.y - a.y)+(p.x - a.x))=0:=by grind
    rcases Rat.mul_eq_zero.mp this with y | y
    ·exact absurd y hd
    ·obtain ⟨px,py,pz⟩:=p
     simp only [Pt.mk.injEq,and_true] at *
     constructor <;> grind
   ·simp only [Pt.mk.injEq,and_true]
    constructor <;> grind
 ·simp only [if_neg c]
  obtain ⟨px,py,pz⟩:=p
  by_cases d:w=r.n
  ·simp only [if_pos d]
   refine ⟨by grind,by simp,fun z=>by simp only [Pt.mk.injEq,true_and]; grind,fun q t=>?_⟩
   unfold onWay
   simp only [Pt.mk.injEq,true_and]
   grind
  ·simp only [if_neg d]
   refine ⟨by grind,by simp only [Pt.mk.injEq,true_and]; grind,fun z=>by simp only [Pt.mk.injEq,true_and]; grind,fun q t=>?_⟩
   unfold onWay
   simp only [Pt.mk.injEq,true_and]
   grind
theorem through_iff (r:Room) (w:Nat) (q i p:Pt):r.through w q i=some p↔Hq r w q*Hq r w i < 0/\p=onWay q i (Hq r w q / (Hq r w q - Hq r w i)):=by
 have key:∀ {a b:Rat},(if a=b then (none:Option Rat) else some (a / (a - b))).bind (fun (t:Rat)=>if 0 < t/\t < 1 then some (onWay q i t) else none)=some p↔a*b < 0/\p=onWay q i (a / (a - b)):=fun {a b}=>by
  by_cases e:a=b
  ·rw [if_pos e]
   constructor
   ·intro z; cases z
   ·rintro ⟨z,_⟩
    rw [e] at z
    rcases (show b<=0\/0<=b by grind) with y | y
    ·have:=mpp y y
     grind
    ·have:=mnn y y
     grind
  ·rw [if_neg e,Option.bind_some]
   have fb:=frac_between e
   by_cases z:a*b < 0
   ·rw [if_pos (fb.mpr z)]
    constructor
    ·intro y
     exact ⟨z,(Option.some.inj y).symm⟩
    ·rintro ⟨_,y⟩
     rw [y]
   ·rw [if_neg (fun y=>z (fb.mp y))]
    constructor
    ·intro y; cases y
    ·rintro ⟨y,_⟩
     exact absurd y z
 unfold Room.through Hq
 by_cases c:w < r.n
 ·simp only [if_pos c]
  exact key (a:=lfP r.corner w q.x q.y) (b:=lfP r.corner w i.x i.y)
 ·simp only [if_neg c]
  by_cases d:w=r.n
  ·simp only [if_pos d]
   have k:=key (a:=q.z) (b:=i.z)
   have e:∀ x:Rat,(0 - q.z) / (i.z - q.z)=q.z / (q.z - i.z):=fun _=>by
    by_cases z:q.z=i.z
    ·rw [z]
     have:i.z - i.z=0:=by grind
     rw [this,Rat.div_def,Rat.div_def]
     simp
    ·have h2:i.z - q.z≠0:=by grind
     have h3:q.z - i.z≠0:=by grind
     have k1:(0 - q.z) / (i.z - q.z)*(i.z - q.z)=0 - q.z:=Rat.div_mul_cancel h2
     have k2:q.z / (q.z - i.z)*(q.z - i.z)=q.z:=Rat.div_mul_cancel h3
     refine mul_cancel h3 ?_
     grind
   rw [e 0]
   exact k
  ·simp only [if_neg d]
   have k:=key (a:=r.h - q.z) (b:=r.h - i.z)
   have e1:(r.h - q.z:Rat)=r.h - i.z↔q.z=i.z:=by constructor <;> intro <;> grind
   have e2:(r.h - q.z:Rat) - (r.h - i.z)=i.z - q.z:=by grind
   simp only [e1,e2] at k
   rw [e2]
   exact k
end Wm
namespace Wm
open Eh
def imgR (r:Room) (s:Pt):List Nat->Pt
 | []=>s
 | w :: l=>r.mirror w (imgR r s l)
def imgsR (r:Room) (s:Pt):List Nat->List Pt
 | []=>[s]
 | w :: l=>imgR r s (w :: l) :: imgsR r s l
def zipR (r:Room) (s:Pt):List Nat->List (Nat×Pt)
 | []=>[]
 | w :: l=>(w,imgR r s (w :: l)) :: zipR r s l
theorem imgs_head (r:Room) (s:Pt):∀ l,(imgsR r s l).headD s=imgR r s l
 | []=>rfl
 | _ :: _=>rfl
theorem images_rev (r:Room) (s:Pt):∀ l,r.images s l.reverse=imgsR r s l
 | []=>rfl
 | w :: l=>by
  have ih:=images_rev r s l
  unfold Room.images at ih ⊢
  rw [List.reverse_cons,List.foldl_append,ih]
  show r.mirror w ((imgsR r s l).headD s) :: imgsR r s l=_
  rw [imgs_head]
  rfl
theorem zip_imgs (r:Room) (s:Pt):∀ l,List.zip l (imgsR r s l)=zipR r s l
 | []=>rfl
 | w :: l=>by
  show (w,imgR r s (w :: l)) :: List.zip l (imgsR r s l)=_
  rw [zip_imgs r s l]
  rfl
def fndR (r:Room) (s:Pt):List Nat->Pt->Prop
 | [],q=>r.clear q s=true
 | w :: l,q=>∃ p,r.through w q (imgR r s (w :: l))=some p/\r.inWall w p=true/\r.clear q p=true/\fndR r s l p
theorem found_iff (r:Room) (s:Pt):∀ (l:List Nat) (q:Pt) (acc:List Pt),(r.found s q (zipR r s l) acc).isSome=true↔fndR r s l q
 | [],q,acc=>by
  show (if r.clear q s=true then some acc else none).isSome=true↔r.clear q s=true
  by_cases c:r.clear q s=true
  ·simp [c]
  ·simp [c]
 | w :: l,q,acc=>by
  show ((r.through w q (imgR r s (w :: l))).bind fun (p:Pt)=>if r.inWall w p=true/\r.clear q p=true then r.found s p (zipR r s l) (p :: acc) else none).isSome=true↔_
  cases e:r.through w q (imgR r s (w :: l)) with
  | none =>
   constructor
   ·intro h; cases h
   ·rintro ⟨p,h,_⟩
    rw [e] at h
    cases h
  | some p =>
   rw [Option.bind_some]
   by_cases c:r.inWall w p=true/\r.clear q p=true
   ·rw [if_pos c,found_iff r s l p (p :: acc)]
    constructor
    ·intro h
     exact ⟨p,e,c.1,c.2,h⟩
    ·rintro ⟨p',h,_,_,h4⟩
     rw [e] at h
     cases h
     exact h4
   ·rw [if_neg c]
    constructor
    ·intro h; cases h
    ·rintro ⟨p',h,h2,h3,_⟩
     rw [e] at h
     cases h
     exact absurd ⟨h2,h3⟩ c
theorem isPath_iff (r:Room) (s e:Pt) (l:List Nat) (hs:r.inside s=true) (he:r.inside e=true) (hl:∀ w∈l,w < r.walls):r.isPath s e l=true↔fndR r s l.reverse e:=by
 unfold Room.isPath Room.turns
 have c:(l.all fun (w:Nat)=>decide (w < r.walls))=true:=List.all_eq_true.mpr fun w hw=>decide_eq_true (hl w hw)
 rw [if_pos ⟨hs,he,c⟩]
 have z:List.zip l.reverse (r.images s l)=zipR r s l.reverse:=by
  have:=images_rev r s l.reverse
  rw [List.reverse_reverse] at this
  rw [this,zip_imgs]
 rw [z]
 exact found_iff r s _ e []
def turnAt (r:Room) (s E:Pt) (w:Nat) (l:List Nat):Rat:=Hq r w (imgR r s l) / (Hq r w (imgR r s l)+Hq r w E)
def turnPt (r:Room) (s E:Pt) (w:Nat) (l:List Nat):Pt:=onWay (imgR r s l) (r.mirror w E) (turnAt r s E w l)
def KR (r:Room) (s:Pt):List Nat->Pt->Rat->Pt->Prop
 | [],_,_,q=>CutF r s q
 | w :: l,E,σ,q=>0 < Hq r w (imgR r s l)/\0 < Hq r w E/\turnAt r s E w l < σ/\r.inWall w (turnPt r s E w l)=true/\CutF r (turnPt r s E w l) q/\KR r s l (r.mirror w E) (turnAt r s E w l) (turnPt r s E w l)
theorem way_back (a b:Pt) (σ t:Rat):onWay (onWay a b σ) a t=onWay a b (σ * (1 - t)):=by
 unfold onWay
 simp only [Pt.mk.injEq]
 refine ⟨?_,?_,?_⟩ <;> grind
theorem z_range {r:Room} (F:Fine r) {w:Nat} {p:Pt} (h:r.inWall w p=true):0<=p.z/\p.z<=r.h:=by
 have h1:(1:Rat)<=r.h:=by
  have:=F.h1
  exact_mod_cast this
 by_cases c:w < r.n
 ·have:=((inWall_side F c p).mp h).2
  constructor <;> grind
 ·have:=((inWall_flat c p).mp h).2
  split at this <;> constructor <;> grind
theorem half_z (p q:Pt):(half p q).z=(p.z+q.z) / 2:=by
 show p.z+1 / 2*(q.z - p.z)=_
 grind
theorem spec_K {r:Room} (F:Fine r) {s:Pt} (hs:r.inside s=true):∀ (l:List Nat) (E:Pt) (σ:Rat) (q:Pt),0 < σ->σ<=1->q=onWay (imgR r s l) E σ->0<=q.z->q.z<=r.h->(fndR r s l q↔KR r s l E σ q)
 | [],E,σ,q,_,_,_,z0,z1=>by
  have si:=(inside_iff s).mp hs
  show r.clear q s=true↔CutF r s q
  constructor
  ·intro h
   exact (clear_cut F h).swap
  ·intro h
   refine clear_symm F (cut_clear F h (.inl si.1) ?_)
   rw [half_z]
   constructor <;> grind
 | w :: l, E, σ, q, s0, s1, hq, z0, z1 => by
   have h1:(1:Rat)<=r.h:=by
     have:=F.h1
     exact_mod_cast this
   have mI:=mirror_all F w (imgR r s l)
   have mE:=mirror_all F w E
   have hIm:Hq r w (imgR r s (w :: l))=-Hq r w (imgR r s l):=mI.1
   have hqH:Hq r w q=(1 - σ) * -Hq r w (imgR r s l) + σ * Hq r w E:=by
     rw [hq,Hq_way,hIm]
   -- the turn's point, once its place is known
   have pt:∀ t:Rat,Hq r w (imgR r s l)+Hq r w E≠0->σ * (1 - t)*(Hq r w (imgR r s l)+Hq r w E)=Hq r w (imgR r s l)->onWay q (imgR r s (w :: l)) t=turnPt r s E w l:=fun t hne ht=>by
     have e1:σ * (1 - t)=turnAt r s E w l:=by
       have k:turnAt r s E w l*(Hq r w (imgR r s l)+Hq r w E)=Hq r w (imgR r s l):=Rat.div_mul_cancel hne
       refine mul_cancel hne ?_
       grind
     have e2:onWay q (imgR r s (w :: l)) t=onWay (imgR r s (w :: l)) E (turnAt r s E w l):=by
       rw [hq,way_back,e1]
     have hz:Hq r w (onWay (imgR r s (w :: l)) E (turnAt r s E w l))=0:=by
       have k:turnAt r s E w l*(Hq r w (imgR r s l)+Hq r w E)=Hq r w (imgR r s l):=Rat.div_mul_cancel hne
       rw [Hq_way,hIm]
       grind
     have e3:=(mirror_all F w (onWay (imgR r s (w :: l)) E (turnAt r s E w l))).2.2.1 hz
     rw [e2,← e3,(mirror_all F w (imgR r s (w :: l))).2.2.2 E]
     show onWay (r.mirror w (r.mirror w (imgR r s l))) (r.mirror w E) _=_
     rw [mI.2.1]
     rfl
   constructor
   · rintro ⟨p, hth, hin, hcl, hf⟩
     rw [through_iff,hIm] at hth
     obtain ⟨opp,hp⟩:=hth
     have hq0:Hq r w q≠0:=fun z=>by
       rw [z] at opp
       grind
     have hd:Hq r w q - -Hq r w (imgR r s l)≠0:=by
       intro z
       have:Hq r w q=-Hq r w (imgR r s l):=by grind
       rw [← this] at opp
       rcases (show Hq r w q<=0\/0<=Hq r w q by grind) with y | y
       · have:=mpp y y
         grind
       · have:=mnn y y
         grind
     generalize ht:Hq r w q / (Hq r w q - -Hq r w (imgR r s l))=t at hp
     have ht':t*(Hq r w q - -Hq r w (imgR r s l))=Hq r w q:=by
       rw [← ht]
       exact Rat.div_mul_cancel hd
     have hp0:Hq r w p=0:=by
       rw [hp,Hq_way,hIm]
       grind
     -- it comes from the room's side
     have pos:0 < Hq r w q:=by
       by_cases c:w < r.n
       · have ip:=((inWall_side F c p).mp hin).1
         unfold Hq at hq0 ⊢
         rw [if_pos c] at hq0 ⊢
         exact clear_side F c ip hq0 hcl
       · have fl:=((inWall_flat c p).mp hin).2
         rcases (clear_iff F q p).mp hcl with e | ⟨_,ins⟩
         · rw [e] at hq0
           exact absurd hp0 hq0
         · have iz:=((inside_iff _).mp ins).2
           rw [half_z] at iz
           unfold Hq
           rw [if_neg c]
           by_cases d:w=r.n
           · rw [if_pos d] at fl ⊢
             rw [fl] at iz
             grind
           · rw [if_neg d] at fl ⊢
             rw [fl] at iz
             grind
     have b0:0 < Hq r w (imgR r s l):=by
       have:=neg_of_mul' pos opp
       grind
     have β0:0 < Hq r w E:=by
       have k:=mnn (show 0<=1 - σ by grind) (show 0<=Hq r w (imgR r s l) by grind)
       exact pos_of_mul s0 (by grind)
     have hne:Hq r w (imgR r s l)+Hq r w E≠0:=by grind
     have k:turnAt r s E w l*(Hq r w (imgR r s l)+Hq r w E)=Hq r w (imgR r s l):=Rat.div_mul_cancel hne
     have lt:turnAt r s E w l < σ:=by
       rcases (show turnAt r s E w l < σ\/σ<=turnAt r s E w l by grind) with y | y
       · exact y
       · have:=mnn (show 0<=turnAt r s E w l - σ by grind) (show 0<=Hq r w (imgR r s l)+Hq r w E by grind)
         grind
     have τ0:0 < turnAt r s E w l:=pos_of_mul (show 0 < Hq r w (imgR r s l)+Hq r w E by grind) (by grind)
     have ep:p=turnPt r s E w l:=by
       rw [hp]
       refine pt t hne ?_
       have:σ * (1 - t)*(Hq r w (imgR r s l)+Hq r w E)=(1 - t)*(Hq r w q+Hq r w (imgR r s l)):=by
         rw [hqH]
         grind
       rw [this]
       grind
     rw [ep] at hin hcl hf
     have zr:=z_range F hin
     exact ⟨b0,β0,lt,hin,(clear_cut F hcl).swap,(spec_K F hs l (r.mirror w E) _ _ τ0 (by grind) rfl zr.1 zr.2).mp hf⟩
   · rintro ⟨b0, β0, lt, hin, hcut, hk⟩
     have hne:Hq r w (imgR r s l)+Hq r w E≠0:=by grind
     have k:turnAt r s E w l*(Hq r w (imgR r s l)+Hq r w E)=Hq r w (imgR r s l):=Rat.div_mul_cancel hne
     have τ0:0 < turnAt r s E w l:=pos_of_mul (show 0 < Hq r w (imgR r s l)+Hq r w E by grind) (by grind)
     have pos:0 < Hq r w q:=by
       have:=Rat.mul_pos (show 0 < σ - turnAt r s E w l by grind) (show 0 < Hq r w (imgR r s l)+Hq r w E by grind)
       rw [hqH]
       grind
     have zr:=z_range F hin
     have hd:Hq r w q - -Hq r w (imgR r s l)≠0:=by grind
     have ht':Hq r w q / (Hq r w q - -Hq r w (imgR r s l))*(Hq r w q - -Hq r w (imgR r s l))=Hq r w q:=Rat.div_mul_cancel hd
     refine ⟨turnPt r s E w l,?_,hin,?_,(spec_K F hs l (r.mirror w E) _ _ τ0 (by grind) rfl zr.1 zr.2).mpr hk⟩
     · rw [through_iff,hIm]
       refine ⟨?_,(pt _ hne ?_).symm⟩
       · have:=Rat.mul_pos pos b0
         grind
       · generalize Hq r w q / (Hq r w q - -Hq r w (imgR r s l))=t at *
         have:σ * (1 - t)*(Hq r w (imgR r s l)+Hq r w E)=(1 - t)*(Hq r w q+Hq r w (imgR r s l)):=by
           rw [hqH]
           grind
         rw [this]
         grind
     · refine clear_symm F (cut_clear F hcut ?_ ?_)
       · by_cases c : w < r.n
         · refine .inr ⟨w,c,((inWall_side F c _).mp hin).1,?_⟩
           unfold Hq at pos
           rw [if_pos c] at pos
           exact pos
         · exact .inl ((inWall_flat c _).mp hin).1
       · rw [half_z]
         by_cases c:w < r.n
         · have:=((inWall_side F c _).mp hin).2
           constructor <;> grind
         · have fl:=((inWall_flat c _).mp hin).2
           unfold Hq at pos
           rw [if_neg c] at pos
           by_cases d:w=r.n
           · rw [if_pos d] at fl pos
             constructor <;> grind
           · rw [if_neg d] at fl pos
             constructor <;> grind
end Wm
namespace Gn
open PySem PySem.Spec PyProof.Rows L2 Lw
open PySem.W (Codec WData)
def top (i:Nat):Stmt:=PySem.Challenge.pw_wallbands_s05_best.main.body.getD i (.Pass ⟨0,0,0,0⟩)
abbrev s_find_book_fault:Stmt:=top 7
abbrev s_find_root:Stmt:=top 8
abbrev s_list_parts:Stmt:=top 9
abbrev s_find_gain:Stmt:=top 10
abbrev s_list_corners:Stmt:=top 16
abbrev s_count_walls:Stmt:=top 17
abbrev s_find_stuff:Stmt:=top 18
abbrev s_has_right_length:Stmt:=top 19
abbrev s_is_place:Stmt:=top 20
abbrev s_is_stuff:Stmt:=top 21
abbrev s_has_right_head:Stmt:=top 22
abbrev s_is_corner:Stmt:=top 23
abbrev s_find_ends:Stmt:=top 24
abbrev s_find_run:Stmt:=top 25
abbrev s_runs_in_a_direction:Stmt:=top 26
abbrev s_goes_straight_on:Stmt:=top 27
abbrev s_find_side:Stmt:=top 28
abbrev s_ranges_meet:Stmt:=top 29
abbrev s_reaches_across:Stmt:=top 30
abbrev s_lines_meet:Stmt:=top 31
abbrev s_is_crossed_ahead:Stmt:=top 32
abbrev s_is_within:Stmt:=top 33
abbrev s_is_inside:Stmt:=top 34
abbrev s_meets_a_later_line:Stmt:=top 35
abbrev s_breaks_rule:Stmt:=top 36
abbrev s_measure_twice:Stmt:=top 37
abbrev s_find_room_fault:Stmt:=top 38
abbrev s_find_side_plane:Stmt:=top 40
abbrev s_list_planes:Stmt:=top 41
abbrev s_measure_height:Stmt:=top 42
abbrev s_mirror:Stmt:=top 43
abbrev s_lengthen_way:Stmt:=top 44
abbrev s_list_ways:Stmt:=top 45
abbrev s_list_seen_ends:Stmt:=top 46
abbrev s_list_heights:Stmt:=top 47
abbrev s_are_in_order:Stmt:=top 48
abbrev s_part_way:Stmt:=top 49
abbrev s_enlarge:Stmt:=top 50
abbrev s_is_in_open_wall:Stmt:=top 51
abbrev s_cuts_leg:Stmt:=top 52
abbrev s_is_clear:Stmt:=top 53
abbrev s_is_path:Stmt:=top 54
abbrev s_measure_length2:Stmt:=top 55
abbrev s_find_paths:Stmt:=top 56
abbrev s_refuse_room_or_book:Stmt:=top 65
abbrev s_find_gain_by_walls:Stmt:=top 66
abbrev s_refuse_way:Stmt:=top 67
abbrev s_rank_path:Stmt:=top 68
abbrev s_best:Stmt:=top 69
structure Txt (mg:Str->Option Value):Prop where
 b_abs:mg "abs" = none
 b_all:mg "all" = none
 b_any:mg "any" = none
 b_enumerate:mg "enumerate" = none
 b_len:mg "len" = none
 b_list:mg "list" = none
 b_max:mg "max" = none
 b_min:mg "min" = none
 b_range:mg "range" = none
 b_reversed:mg "reversed" = none
 b_zip:mg "zip" = none
 c_AIR_PLACE:∃ t,mg "AIR_PLACE" = some (.int (32) t)
 c_AIR_STEP:∃ t,mg "AIR_STEP" = some (.int (1024) t)
 c_BANDS:∃ t,mg "BANDS" = some (.int (4) t)
 c_BOOK_LENGTH:∃ t,mg "BOOK_LENGTH" = some (.int (36) t)
 c_FEWEST_CORNERS:∃ t,mg "FEWEST_CORNERS" = some (.int (3) t)
 c_FINE:∃ t,mg "FINE" = some (.int (0) t)
 c_GREATEST_GAIN:∃ t,mg "GREATEST_GAIN" = some (.int (4294967296) t)
 c_GREATEST_PLACE:∃ t,mg "GREATEST_PLACE" = some (.int (4095) t)
 c_GREATEST_STUFF:∃ t,mg "GREATEST_STUFF" = some (.int (7) t)
 c_MOST_CORNERS:∃ t,mg "MOST_CORNERS" = some (.int (64) t)
 c_MOST_TURNS:∃ t,mg "MOST_TURNS" = some (.int (4) t)
 c_NOT_INSIDE:∃ t,mg "NOT_INSIDE" = some (.int (-3) t)
 c_NO_BOOK:∃ t,mg "NO_BOOK" = some (.int (-6) t)
 c_NO_PATH:∃ t,mg "NO_PATH" = some (.int (-2) t)
 c_NO_ROOM:∃ t,mg "NO_ROOM" = some (.int (-5) t)
 c_OUT_OF_RANGE:∃ t,mg "OUT_OF_RANGE" = some (.int (-1) t)
 c_WHOLE_PART:∃ t,mg "WHOLE_PART" = some (.int (32768) t)
theorem len0 {p:List Value->Prop} (h:p []):∀ us:List Value,us.length=0->p us:=fun us e=>by
 rw [List.length_eq_zero_iff.mp e]
 exact h
theorem lens {n:Nat} {p:List Value->Prop} (h:∀ a t,t.length=n->p (a :: t)):∀ us:List Value,us.length=n+1->p us
 | [],e=>by cases e
 | a :: t,e=>h a t (Nat.succ.inj e)
abbrev Tri:=Int×Int×Int
def TriAt (H:Hp) (p:Addr) (c:Tri):Prop:=H p=some (.tup [.int c.1,.int c.2.1,.int c.2.2])
def XyAt (H:Hp) (p:Addr) (c:Tri):Prop:=∃ r:List V,H p=some (.tup (.int c.1 :: .int c.2.1 :: r))
theorem TriAt.xy {H:Hp} {p:Addr} {c:Tri} (h:TriAt H p c):XyAt H p c:=⟨_,h⟩
def LsAt {α:Type} (R:Hp->Addr->α->Prop) (H:Hp) (a:Addr) (C:List α):Prop:=∃ ps:List Addr,H a=some (.lst (ps.map V.ref))/\ps.length=C.length/\∀ (i:Nat) p c,ps[i]? = some p->C[i]? = some c->R H p c
abbrev CsAt (H:Hp) (a:Addr) (C:List Tri):Prop:=LsAt XyAt H a C
abbrev CtAt (H:Hp) (a:Addr) (C:List Tri):Prop:=LsAt TriAt H a C
def EndsAt (H:Hp) (p:Addr) (a b:Tri):Prop:=∃ p1 p2,H p=some (.tup [.ref p1,.ref p2])/\XyAt H p1 a/\XyAt H p2 b
theorem TriAt.same {H H':Hp} {p:Addr} {c:Tri} (h:TriAt H p c) (s:Same H H'):TriAt H' p c:=s _ _ h
theorem XyAt.same {H H':Hp} {p:Addr} {c:Tri} (h:XyAt H p c) (s:Same H H'):XyAt H' p c:=by
 obtain ⟨r,h⟩:=h
 exact ⟨r,s _ _ h⟩
theorem CtAt.cs {H:Hp} {a:Addr} {C:List Tri} (h:CtAt H a C):CsAt H a C:=by
 obtain ⟨ps,h1,h2,h3⟩:=h
 exact ⟨ps,h1,h2,fun i p c e1 e2=>(h3 i p c e1 e2).xy⟩
theorem LsAt.sameR {α:Type} {R:Hp->Addr->α->Prop} {H H':Hp} {a:Addr} {C:List α} (h:LsAt R H a C) (s:Same H H') (hR:∀ p c,R H p c->R H' p c):LsAt R H' a C:=by
 obtain ⟨ps,h1,h2,h3⟩:=h
 exact ⟨ps,s _ _ h1,h2,fun i p c e1 e2=>hR p c (h3 i p c e1 e2)⟩
theorem CsAt.same {H H':Hp} {a:Addr} {C:List Tri} (h:CsAt H a C) (s:Same H H'):CsAt H' a C:=LsAt.sameR h s fun _ _ q=>q.same s
theorem CtAt.same {H H':Hp} {a:Addr} {C:List Tri} (h:CtAt H a C) (s:Same H H'):CtAt H' a C:=LsAt.sameR h s fun _ _ q=>q.same s
theorem EndsAt.same {H H':Hp} {p:Addr} {a b:Tri} (h:EndsAt H p a b) (s:Same H H'):EndsAt H' p a b:=by
 obtain ⟨p1,p2,h1,h2,h3⟩:=h
 exact ⟨p1,p2,s _ _ h1,h2.same s,h3.same s⟩
def atC (C:List Tri) (i:Nat):Tri:=C.getD (i % C.length) (0,0,0)
theorem LsAt.len {R:Hp->Addr->Tri->Prop} {H:Hp} {a:Addr} {C:List Tri} (h:LsAt R H a C):∃ ps:List Addr,H a=some (.lst (ps.map V.ref))/\(ps.map V.ref).length=C.length/\∀ i:Nat,C≠[]->∃ p,(ps.map V.ref)[i % C.length]? = some (.ref p)/\R H p (atC C i):=by
 obtain ⟨ps,h1,h2,h3⟩:=h
 refine ⟨ps,h1,by rw [List.length_map,h2],fun i hC=>?_⟩
 have hp:0 < C.length:=List.length_pos_iff.mpr hC
 have hi:i % C.length < C.length:=Nat.mod_lt _ hp
 refine ⟨ps[i % C.length]'(by omega),?_,h3 (i % C.length) _ _ (List.getElem?_eq_getElem (by omega)) ?_⟩
 ·rw [List.getElem?_map,List.getElem?_eq_getElem (by omega)]
  rfl
 ·unfold atC
  rw [List.getD_eq_getElem?_getD,List.getElem?_eq_getElem hi]
  rfl
theorem at0 {u v:V} {r:List V}:atI (u :: v :: r) 0=some u:=by
 unfold atI ixN
 rw [if_pos (by decide),if_pos (by simp only [List.length_cons]; omega)]
 rfl
theorem at1 {u v:V} {r:List V}:atI (u :: v :: r) 1=some v:=by
 unfold atI ixN
 rw [if_pos (by decide),if_pos (by simp only [List.length_cons]; omega)]
 rfl
theorem atI_mod {α:Type} {xs:List α} {i n:Nat} {v:α} (h:xs[i % n]? = some v):atI xs ((i:Int) % (n:Int))=some v:=by
 rw [← Int.natCast_emod]
 exact atI_nat h
theorem atI_eq {α:Type} {xs:List α} {z:Int} {i:Nat} {v:α} (e:z=(i:Int)) (h:xs[i]? = some v):atI xs z=some v:=by
 subst e
 exact atI_nat h
def Bd (c:Tri):Prop:=c.1.natAbs<=2 ^ 63/\c.2.1.natAbs<=2 ^ 63
theorem atC_bd {C:List Tri} (h:∀ c∈C,Bd c) (i:Nat):Bd (atC C i):=by
 unfold atC
 rw [List.getD_eq_getElem?_getD]
 cases e:C[i % C.length]? with
 | none=>exact ⟨by decide,by decide⟩
 | some c=>exact h c (List.mem_of_getElem? e)
theorem mul_bd {a b:Int} {m n:Nat} (ha:a.natAbs < 2 ^ m) (hb:b.natAbs < 2 ^ n):(a*b).natAbs < 2 ^ (m+n):=by
 rw [Int.natAbs_mul,Nat.pow_add]
 exact Nat.mul_lt_mul_of_lt_of_lt ha hb
theorem sub_bd {a b:Int} {m:Nat} (ha:a.natAbs < 2 ^ m) (hb:b.natAbs < 2 ^ m):(a - b).natAbs < 2 ^ (m+1):=by
 rw [Nat.pow_succ]
 omega
theorem d65 {a b:Int} (ha:a.natAbs<=2 ^ 63) (hb:b.natAbs<=2 ^ 63):(a - b).natAbs < 2 ^ 65:=by omega
end Gn
namespace Gn
open PySem PySem.Spec PyProof.Rows L2 Lw
open PySem.W (Codec WData)
theorem no_iff {p:Prop} (h:¬ p):(false=true↔p):=⟨fun q=>(by cases q),fun q=>absurd q h⟩
section
variable {P:Program} {w:World} {K:PySem.W.Frag} {mg:Str->Option Value} {base:Heap}
def spRng (hi:Int):Sp:=fun vs H Q _=>∃ z:Int,vs=[.int z]/\∀ b H',(b=true↔0<=z/\z<=hi)->Same H H'->Q (.bl b) H'
theorem sc_is_place:FnScope ["number"] ["number"] (defScope s_is_place):=⟨rfl,rfl,rfl,by decide +kernel,rfl,by decide +kernel,by decide +kernel⟩
theorem ok_is_place (F:At K mg "is_place" s_is_place ["number"]) (T:Txt mg):Def P w K mg base "is_place" 1 ["number"] (spRng 4095):=by
 refine F.ok sc_is_place (fun vs H Q E h=>?_) (fun f cdv A outer s H vs Q E hr h=>?_)
 ·obtain ⟨z,rfl,_⟩:=h
  rfl
 ·obtain ⟨z,rfl,k⟩:=h
  have nd:=sc_is_place.nd
  refine ⟨_,(pss_one (ps_ret (pe_chain op_le op_le pe_int (pv 0) (pe_gE (by rfl) T.c_GREATEST_PLACE)))),?_⟩
  refine ⟨_,rfl,_,_,rfl,rfl,_,rfl,?_⟩
  refine ite2 (fun c=>?_) (fun c=>?_)
  ·refine ⟨_,_,rfl,rfl,k _ _ ?_ (Same.refl H)⟩
   simp at c
   simp [c]
  ·refine k _ _ ?_ (Same.refl H)
   simp at c
   simp
   omega
theorem sc_is_stuff:FnScope ["number"] ["number"] (defScope s_is_stuff):=⟨rfl,rfl,rfl,by decide +kernel,rfl,by decide +kernel,by decide +kernel⟩
theorem ok_is_stuff (F:At K mg "is_stuff" s_is_stuff ["number"]) (T:Txt mg):Def P w K mg base "is_stuff" 1 ["number"] (spRng 7):=by
 refine F.ok sc_is_stuff (fun vs H Q E h=>?_) (fun f cdv A outer s H vs Q E hr h=>?_)
 ·obtain ⟨z,rfl,_⟩:=h
  rfl
 ·obtain ⟨z,rfl,k⟩:=h
  have nd:=sc_is_stuff.nd
  refine ⟨_,(pss_one (ps_ret (pe_chain op_le op_le pe_int (pv 0) (pe_gE (by rfl) T.c_GREATEST_STUFF)))),?_⟩
  refine ⟨_,rfl,_,_,rfl,rfl,_,rfl,?_⟩
  refine ite2 (fun c=>?_) (fun c=>?_)
  ·refine ⟨_,_,rfl,rfl,k _ _ ?_ (Same.refl H)⟩
   simp at c
   simp [c]
  ·refine k _ _ ?_ (Same.refl H)
   simp at c
   simp
   omega
def spLenOk (K:PySem.W.Frag):Sp:=fun vs H Q _=>∃ (a:Addr) (xs:List V),vs=[.ref a]/\SqL K H a xs/\∀ b H',(b=true↔xs.length % 3=0/\3<=xs.length / 3 - 1/\xs.length / 3 - 1<=64)->Same H H'->Q (.bl b) H'
theorem sc_has_right_length:FnScope ["room"] ["room"] (defScope s_has_right_length):=⟨rfl,rfl,rfl,by decide +kernel,rfl,by decide +kernel,by decide +kernel⟩
theorem ok_has_right_length (F:At K mg "has_right_length" s_has_right_length ["room"]) (T:Txt mg):Def P w K mg base "has_right_length" 1 ["room"] (spLenOk K):=by
 refine F.ok sc_has_right_length (fun vs H Q E h=>?_) (fun f cdv A outer s H vs Q E hr h=>?_)
 ·obtain ⟨a,xs,rfl,_⟩:=h
  rfl
 ·obtain ⟨a,xs,rfl,hS,k⟩:=h
  have nd:=sc_has_right_length.nd
  refine ⟨_,(pss_one (ps_ret (pe_and (pe_cmpR op_eq (pe_op op_mod (pe_callB call_len_seq (by rfl) T.b_len bt_len (pa_cons (pv 0) pa_nil)) pe_int) pe_int (nomark _)) (pe_one (pe_chain op_le op_le (pe_gE (by rfl) T.c_FEWEST_CORNERS) (pe_op op_sub (pe_op op_fdivB (pe_callB call_len_seq (by rfl) T.b_len bt_len (pa_cons (pv 0) pa_nil)) pe_int) pe_int) (pe_gE (by rfl) T.c_MOST_CORNERS)))))),?_⟩
  refine ⟨_,rfl,a,_,rfl,.inl hS,_,_,rfl,rfl,(by show (0:Int) < 3; decide),rfl,_,rfl,?_⟩
  refine ite2 (fun c=>?_) (fun c=>?_)
  ·have c:(xs.length:Int) % 3=0:=by simpa using c
   refine ⟨_,rfl,a,_,rfl,.inl hS,_,_,rfl,rfl,⟨by decide,PyProof.noPylong_small (by decide)⟩,_,_,rfl,rfl,_,_,rfl,rfl,_,rfl,?_⟩
   refine ite2 (fun d=>?_) (fun d=>?_)
   ·refine ⟨_,_,rfl,rfl,k _ _ ?_ (Same.refl H)⟩
    have d:(3:Int)<=(xs.length:Int) / 3 - 1:=by simpa using d
    simp
    omega
   ·refine k _ _ ?_ (Same.refl H)
    have d:¬ (3:Int)<=(xs.length:Int) / 3 - 1:=by simpa using d
    simp
    omega
  ·refine k _ _ ?_ (Same.refl H)
   have c:¬ (xs.length:Int) % 3=0:=by simpa using c
   simp
   omega
def spWalls (K:PySem.W.Frag):Sp:=fun vs H Q _=>∃ (a:Addr) (xs:List V),vs=[.ref a]/\SqL K H a xs/\∀ H',Same H H'->Q (.int ((xs.length / 3+1:Nat):Int)) H'
theorem sc_count_walls:FnScope ["room"] ["room"] (defScope s_count_walls):=⟨rfl,rfl,rfl,by decide +kernel,rfl,by decide +kernel,by decide +kernel⟩
theorem ok_count_walls (F:At K mg "count_walls" s_count_walls ["room"]) (T:Txt mg):Def P w K mg base "count_walls" 1 ["room"] (spWalls K):=by
 refine F.ok sc_count_walls (fun vs H Q E h=>?_) (fun f cdv A outer s H vs Q E hr h=>?_)
 ·obtain ⟨a,xs,rfl,_⟩:=h
  rfl
 ·obtain ⟨a,xs,rfl,hS,k⟩:=h
  have nd:=sc_count_walls.nd
  refine ⟨_,(pss_one (ps_ret (pe_op op_add (pe_op op_fdivB (pe_callB call_len_seq (by rfl) T.b_len bt_len (pa_cons (pv 0) pa_nil)) pe_int) pe_int))),?_⟩
  exact ⟨_,rfl,a,_,rfl,.inl hS,_,_,rfl,rfl,⟨by decide,PyProof.noPylong_small (by decide)⟩,_,_,rfl,rfl,k _ (Same.refl H)⟩
def spHeadOk (K:PySem.W.Frag):Sp:=fun vs H Q _=>∃ (a:Addr) (ns:List Int),vs=[.ref a]/\SqL K H a (ns.map V.int)/\3<=ns.length/\∀ b H',(b=true↔(1<=ns.getD 0 0/\ns.getD 0 0<=4095)/\(0<=ns.getD 1 0/\ns.getD 1 0<=7)/\(0<=ns.getD 2 0/\ns.getD 2 0<=7))->Same H H'->Q (.bl b) H'
theorem at_int {ns:List Int} {i:Nat} {z:Int} (e:z=(i:Int)) (h:i < ns.length):atI (ns.map V.int) z=some (V.int (ns.getD i 0)):=by
 refine atI_eq e ?_
 rw [List.getElem?_map,List.getElem?_eq_getElem h,List.getD_eq_getElem?_getD,List.getElem?_eq_getElem h]
 rfl
theorem sc_has_right_head:FnScope ["room"] ["room"] (defScope s_has_right_head):=⟨rfl,rfl,rfl,by decide +kernel,rfl,by decide +kernel,by decide +kernel⟩
theorem ok_has_right_head (F:At K mg "has_right_head" s_has_right_head ["room"]) (T:Txt mg) (D_is_stuff:Def P w K mg base "is_stuff" 1 ["number"] (spRng 7)):Def P w K mg base "has_right_head" 2 ["room"] (spHeadOk K):=by
 refine F.ok sc_has_right_head (fun vs H Q E h=>?_) (fun f cdv A outer s H vs Q E hr h=>?_)
 ·obtain ⟨a,xs,rfl,_⟩:=h
  rfl
 ·obtain ⟨a,ns,rfl,hS,hl,k⟩:=h
  have nd:=sc_has_right_head.nd
  refine ⟨_,(pss_one (ps_ret (pe_and (pe_chain op_le op_le pe_int (pe_ix ix_list (pv 0) pe_int (fun _ _=>rfl)) (pe_gE (by rfl) T.c_GREATEST_PLACE)) (pe_and (pe_callD D_is_stuff hr (pa_cons (pe_ix ix_list (pv 0) pe_int (fun _ _=>rfl)) pa_nil)) (pe_one (pe_callD D_is_stuff hr (pa_cons (pe_ix ix_list (pv 0) pe_int (fun _ _=>rfl)) pa_nil))))))),?_⟩
  refine ⟨_,rfl,a,_,_,_,rfl,rfl,hS,at_int (i:=0) rfl (by omega),_,_,rfl,rfl,_,rfl,?_⟩
  refine ite2 (fun c=>?_) (fun c=>?_)
  ·have c:1<=ns.getD 0 0:=by simpa using c
   refine ⟨_,_,rfl,rfl,_,rfl,?_⟩
   refine ite2 (fun d=>?_) (fun d=>?_)
   ·have d:ns.getD 0 0<=4095:=by simpa using d
    refine ⟨_,rfl,a,_,_,_,rfl,rfl,hS,at_int (i:=1) rfl (by omega),_,rfl,fun b1 H1 hb1 s1=>⟨_,rfl,?_⟩⟩
    refine ite2 (fun g=>?_) (fun g=>?_)
    ·refine ⟨_,rfl,a,_,_,_,rfl,rfl,s1.seq hS,at_int (i:=2) rfl (by omega),_,rfl,fun b2 H2 hb2 s2=>k _ _ ?_ (s1.trans s2)⟩
     rw [hb2]
     have:=hb1.mp g
     constructor
     ·intro q; exact ⟨⟨c,d⟩,this,q⟩
     ·intro q; exact q.2.2
    ·refine k _ _ ?_ s1
     have:¬ _:=fun q=>g (hb1.mpr q)
     constructor
     ·intro q; cases q
     ·intro q; exact absurd q.2.1 this
   ·refine k _ _ ?_ (Same.refl H)
    have d:¬ ns.getD 0 0<=4095:=by simpa using d
    constructor
    ·intro q; cases q
    ·intro q; exact absurd q.1.2 d
  ·refine ⟨_,rfl,iteF (k _ _ ?_ (Same.refl H))⟩
   have c:¬ 1<=ns.getD 0 0:=by simpa using c
   constructor
   ·intro q; cases q
   ·intro q; exact absurd q.1.1 c
def spCorner:Sp:=fun vs H Q _=>∃ (p:Addr) (c:Tri),vs=[.ref p]/\TriAt H p c/\∀ b H',(b=true↔(0<=c.1/\c.1<=4095)/\(0<=c.2.1/\c.2.1<=4095)/\(0<=c.2.2/\c.2.2<=7))->Same H H'->Q (.bl b) H'
theorem sc_is_corner:FnScope ["corner"] ["corner"] (defScope s_is_corner):=⟨rfl,rfl,rfl,by decide +kernel,rfl,by decide +kernel,by decide +kernel⟩
theorem ok_is_corner (F:At K mg "is_corner" s_is_corner ["corner"]) (T:Txt mg) (D_is_place:Def P w K mg base "is_place" 1 ["number"] (spRng 4095)) (D_is_stuff:Def P w K mg base "is_stuff" 1 ["number"] (spRng 7)):Def P w K mg base "is_corner" 2 ["corner"] spCorner:=by
 refine F.ok sc_is_corner (fun vs H Q E h=>?_) (fun f cdv A outer s H vs Q E hr h=>?_)
 ·obtain ⟨a,xs,rfl,_⟩:=h
  rfl
 ·obtain ⟨p,c,rfl,hS,k⟩:=h
  have nd:=sc_is_corner.nd
  refine ⟨_,(pss_one (ps_ret (pe_and (pe_callD D_is_place hr (pa_cons (pe_ix ix_tup (pv 0) pe_int (fun _ _=>rfl)) pa_nil)) (pe_and (pe_callD D_is_place hr (pa_cons (pe_ix ix_tup (pv 0) pe_int (fun _ _=>rfl)) pa_nil)) (pe_one (pe_callD D_is_stuff hr (pa_cons (pe_ix ix_tup (pv 0) pe_int (fun _ _=>rfl)) pa_nil))))))),?_⟩
  refine ⟨_,rfl,p,_,_,_,rfl,rfl,SqT.of hS,rfl,_,rfl,fun b1 H1 hb1 s1=>⟨_,rfl,?_⟩⟩
  refine ite2 (fun g1=>?_) (fun g1=>?_)
  ·refine ⟨_,rfl,p,_,_,_,rfl,rfl,SqT.of (s1 _ _ hS),rfl,_,rfl,fun b2 H2 hb2 s2=>⟨_,rfl,?_⟩⟩
   refine ite2 (fun g2=>?_) (fun g2=>?_)
   ·refine ⟨_,rfl,p,_,_,_,rfl,rfl,SqT.of (s2 _ _ (s1 _ _ hS)),rfl,_,rfl,fun b3 H3 hb3 s3=>k _ _ ?_ (s1.trans (s2.trans s3))⟩
    rw [hb3]
    exact ⟨fun q=>⟨hb1.mp g1,hb2.mp g2,q⟩,fun q=>q.2.2⟩
   ·exact k _ _ (no_iff fun q=>g2 (hb2.mpr q.2.1)) (s1.trans s2)
  ·exact k _ _ (no_iff fun q=>g1 (hb1.mpr q.1)) s1
end
end Gn
namespace Gn
open PySem PySem.Spec PyProof.Rows L2 Lw
open PySem.W (Codec WData)
section
variable {P:Program} {w:World} {K:PySem.W.Frag} {mg:Str->Option Value} {base:Heap}
def spEnds:Sp:=fun vs H Q _=>∃ (a:Addr) (C:List Tri) (i:Nat),vs=[.ref a,.int (i:Int)]/\CsAt H a C/\C≠[]/\∀ H' p,Same H H'->EndsAt H' p (atC C i) (atC C (i+1))->Q (.ref p) H'
theorem sc_find_ends:FnScope ["corners", "line"] ["corners", "line"] (defScope s_find_ends):=⟨rfl,rfl,rfl,by decide +kernel,rfl,by decide +kernel,by decide +kernel⟩
theorem ok_find_ends (F:At K mg "find_ends" s_find_ends ["corners", "line"]) (T:Txt mg):Def P w K mg base "find_ends" 1 ["corners", "line"] spEnds:=by
 refine F.ok sc_find_ends (fun vs H Q E h=>?_) (fun f cdv A outer s H vs Q E hr h=>?_)
 ·obtain ⟨a,C,i,rfl,_⟩:=h
  rfl
 ·obtain ⟨a,C,i,rfl,hC,hne,k⟩:=h
  have nd:=sc_find_ends.nd
  obtain ⟨ps,h1,h2,h3⟩:=hC.len
  obtain ⟨p1,e1,t1⟩:=h3 i hne
  obtain ⟨p2,e2,t2⟩:=h3 (i+1) hne
  have hp:(0:Int) < (((ps.map V.ref).length:Nat):Int):=by
   have:=List.length_pos_iff.mpr hne
   omega
  rw [← h2] at e1 e2
  refine ⟨_,(pss_one (ps_ret (pe_tup (pa_cons (pe_ix ix_list (pv 0) (pe_op op_mod (pv 1) (pe_callB call_len_seq (by rfl) T.b_len bt_len (pa_cons (pv 0) pa_nil))) (fun _ _=>rfl)) (pa_cons (pe_ix ix_list (pv 0) (pe_op op_mod (pe_op op_add (pv 1) pe_int) (pe_callB call_len_seq (by rfl) T.b_len bt_len (pa_cons (pv 0) pa_nil))) (fun _ _=>rfl)) pa_nil))))),?_⟩
  refine ⟨_,rfl,_,rfl,_,rfl,a,_,rfl,.inl (SqL.of h1),_,_,rfl,rfl,hp,a,_,_,_,rfl,rfl,SqL.of h1,atI_mod e1,?_⟩
  refine ⟨_,rfl,_,rfl,_,_,rfl,rfl,_,rfl,a,_,rfl,.inl (SqL.of h1),_,_,rfl,rfl,hp,a,_,_,_,rfl,rfl,SqL.of h1,atI_mod (i:=i+1) e2,?_⟩
  refine ⟨(by show 2<=sizeLine; decide),fun p hp=>?_⟩
  have sn:=same_new (o:=HO.tup [.ref p1,.ref p2]) hp
  exact k _ p sn ⟨p1,p2,upd_same,t1.same sn,t2.same sn⟩
def runX (C:List Tri) (i:Nat):Int:=(atC C (i+1)).1 - (atC C i).1
def runY (C:List Tri) (i:Nat):Int:=(atC C (i+1)).2.1 - (atC C i).2.1
def spRun:Sp:=fun vs H Q _=>∃ (a:Addr) (C:List Tri) (i:Nat),vs=[.ref a,.int (i:Int)]/\CsAt H a C/\C≠[]/\∀ H' p,Same H H'->H' p=some (.tup [.int (runX C i),.int (runY C i)])->Q (.ref p) H'
theorem sc_find_run:FnScope ["corners", "line", "ends"] ["corners", "line"] (defScope s_find_run):=⟨rfl,rfl,rfl,by decide +kernel,rfl,by decide +kernel,by decide +kernel⟩
theorem ok_find_run (F:At K mg "find_run" s_find_run ["corners", "line"]) (T:Txt mg) (D_find_ends:Def P w K mg base "find_ends" 1 ["corners", "line"] spEnds):Def P w K mg base "find_run" 2 ["corners", "line"] spRun:=by
 refine F.ok sc_find_run (fun vs H Q E h=>?_) (fun f cdv A outer s H vs Q E hr h=>?_)
 ·obtain ⟨a,C,i,rfl,_⟩:=h
  rfl
 ·obtain ⟨a,C,i,rfl,hC,hne,k⟩:=h
  have nd:=sc_find_run.nd
  refine ⟨_,(pss_cons (ps_set (i:=2) nd rfl (Or.inl rfl) (pe_callD D_find_ends hr (pa_cons (pv 0) (pa_cons (pv 1) pa_nil))))
   (pss_one (ps_ret (pe_tup (pa_cons (pe_op op_sub (pe_ix ix_tup (pe_ix ix_tup (pv 2) pe_int (fun _ _=>rfl)) pe_int (fun _ _=>rfl)) (pe_ix ix_tup (pe_ix ix_tup (pv 2) pe_int (fun _ _=>rfl)) pe_int (fun _ _=>rfl))) (pa_cons (pe_op op_sub (pe_ix ix_tup (pe_ix ix_tup (pv 2) pe_int (fun _ _=>rfl)) pe_int (fun _ _=>rfl)) (pe_ix ix_tup (pe_ix ix_tup (pv 2) pe_int (fun _ _=>rfl)) pe_int (fun _ _=>rfl))) pa_nil)))))),?_⟩
  refine ⟨_,rfl,_,rfl,a,C,i,rfl,hC,hne,fun H1 p s1 hE=>?_⟩
  obtain ⟨p1,p2,e,⟨_,t1⟩,⟨_,t2⟩⟩:=hE
  refine ⟨_,rfl,p,_,_,_,rfl,rfl,SqT.of e,rfl,p2,_,_,_,rfl,rfl,SqT.of t2,at0,?_⟩
  refine ⟨_,rfl,p,_,_,_,rfl,rfl,SqT.of e,rfl,p1,_,_,_,rfl,rfl,SqT.of t1,at0,_,_,rfl,rfl,?_⟩
  refine ⟨_,rfl,p,_,_,_,rfl,rfl,SqT.of e,rfl,p2,_,_,_,rfl,rfl,SqT.of t2,at1,?_⟩
  refine ⟨_,rfl,p,_,_,_,rfl,rfl,SqT.of e,rfl,p1,_,_,_,rfl,rfl,SqT.of t1,at1,_,_,rfl,rfl,?_⟩
  exact ⟨(by show 2<=sizeLine; decide),fun q hq=>k _ q (s1.trans (same_new hq)) upd_same⟩
def spDir:Sp:=fun vs H Q _=>∃ (a:Addr) (C:List Tri) (i:Nat),vs=[.ref a,.int (i:Int)]/\CsAt H a C/\C≠[]/\∀ b H',(b=true↔(if runX C i=0\/runY C i=0 then runX C i≠runY C i else (runX C i).natAbs=(runY C i).natAbs))->Same H H'->Q (.bl b) H'
theorem sc_runs_in_a_direction:FnScope ["corners", "line", "run"] ["corners", "line"] (defScope s_runs_in_a_direction):=⟨rfl,rfl,rfl,by decide +kernel,rfl,by decide +kernel,by decide +kernel⟩
theorem ok_runs_in_a_direction (F:At K mg "runs_in_a_direction" s_runs_in_a_direction ["corners", "line"]) (T:Txt mg) (D_find_run:Def P w K mg base "find_run" 2 ["corners", "line"] spRun):Def P w K mg base "runs_in_a_direction" 3 ["corners", "line"] spDir:=by
 refine F.ok sc_runs_in_a_direction (fun vs H Q E h=>?_) (fun f cdv A outer s H vs Q E hr h=>?_)
 ·obtain ⟨a,C,i,rfl,_⟩:=h
  rfl
 ·obtain ⟨a,C,i,rfl,hC,hne,k⟩:=h
  have nd:=sc_runs_in_a_direction.nd
  refine ⟨_,(pss_cons (ps_set (i:=2) nd rfl (Or.inl rfl) (pe_callD D_find_run hr (pa_cons (pv 0) (pa_cons (pv 1) pa_nil))))
   (pss_cons (ps_if (pt_or (pt_cmpR op_eq (pe_ix ix_tup (pv 2) pe_int (fun _ _=>rfl)) pe_int (nomark _)) (pw_or1 (pt_cmpR op_eq (pe_ix ix_tup (pv 2) pe_int (fun _ _=>rfl)) pe_int (nomark _)))) (pss_one (ps_ret (pe_cmpR op_ne (pe_ix ix_tup (pv 2) pe_int (fun _ _=>rfl)) (pe_ix ix_tup (pv 2) pe_int (fun _ _=>rfl)) (nomark _)))) pss_nil)
   (pss_one (ps_ret (pe_cmpR op_eq (pe_callB call_abs (by rfl) T.b_abs bt_abs (pa_cons (pe_ix ix_tup (pv 2) pe_int (fun _ _=>rfl)) pa_nil)) (pe_callB call_abs (by rfl) T.b_abs bt_abs (pa_cons (pe_ix ix_tup (pv 2) pe_int (fun _ _=>rfl)) pa_nil)) (nomark _)))))),?_⟩
  refine ⟨_,rfl,_,rfl,a,C,i,rfl,hC,hne,fun H1 p s1 e=>?_⟩
  generalize runX C i=x at *
  generalize runY C i=y at *
  have zero:(x=0\/y=0)->tRet (tOp rNe (tOp (rIxT K) (tVar 2) (tC (.int 0))) (tOp (rIxT K) (tVar 2) (tC (.int 1)))) { nx:=fun _ H'=>Q .non H',rt:=Q } ([some (.ref a),some (.int (i:Int)),some (.ref p)]) H1:=fun z=>by
   refine ⟨_,rfl,p,_,_,_,rfl,rfl,SqT.of e,rfl,_,rfl,p,_,_,_,rfl,rfl,SqT.of e,rfl,rfl,k _ _ ?_ s1⟩
   rw [if_pos z]
   simp
  refine ⟨_,rfl,p,_,_,_,rfl,rfl,SqT.of e,rfl,rfl,_,rfl,?_⟩
  refine ite2 (fun c=>?_) (fun c=>?_)
  ·have c:x=0:=by simpa using c
   exact zero (.inl c)
  ·have c:¬ x=0:=by simpa using c
   refine ⟨_,rfl,p,_,_,_,rfl,rfl,SqT.of e,rfl,rfl,_,rfl,?_⟩
   refine ite2 (fun d=>?_) (fun d=>?_)
   ·have d:y=0:=by simpa using d
    exact zero (.inr d)
   ·have d:¬ y=0:=by simpa using d
    refine ⟨_,rfl,p,_,_,_,rfl,rfl,SqT.of e,rfl,_,rfl,_,rfl,p,_,_,_,rfl,rfl,SqT.of e,rfl,_,rfl,rfl,k _ _ ?_ s1⟩
    have nz:¬ (x=0\/y=0):=by
     rintro (z | z)
     ·exact c z
     ·exact d z
    rw [if_neg nz]
    simp
    omega
def spStraight:Sp:=fun vs H Q _=>∃ (a:Addr) (C:List Tri) (i:Nat),vs=[.ref a,.int (i:Int)]/\CsAt H a C/\C≠[]/\(∀ c∈C,Bd c)/\∀ b H',(b=true↔runX C i*runY C (i+1)=runY C i*runX C (i+1))->Same H H'->Q (.bl b) H'
theorem run_bd {C:List Tri} (h:∀ c∈C,Bd c) (i:Nat):(runX C i).natAbs < 2 ^ 65/\(runY C i).natAbs < 2 ^ 65:=by
 have a:=atC_bd h i
 have b:=atC_bd h (i+1)
 exact ⟨d65 b.1 a.1,d65 b.2 a.2⟩
theorem sc_goes_straight_on:FnScope ["corners", "line", "first", "second"] ["corners", "line"] (defScope s_goes_straight_on):=⟨rfl,rfl,rfl,by decide +kernel,rfl,by decide +kernel,by decide +kernel⟩
theorem ok_goes_straight_on (F:At K mg "goes_straight_on" s_goes_straight_on ["corners", "line"]) (T:Txt mg) (D_find_run:Def P w K mg base "find_run" 2 ["corners", "line"] spRun):Def P w K mg base "goes_straight_on" 3 ["corners", "line"] spStraight:=by
 refine F.ok sc_goes_straight_on (fun vs H Q E h=>?_) (fun f cdv A outer s H vs Q E hr h=>?_)
 ·obtain ⟨a,C,i,rfl,_⟩:=h
  rfl
 ·obtain ⟨a,C,i,rfl,hC,hne,hb,k⟩:=h
  have nd:=sc_goes_straight_on.nd
  have b1:=run_bd hb i
  have b2:=run_bd hb (i+1)
  refine ⟨_,(pss_cons (ps_set (i:=2) nd rfl (Or.inl rfl) (pe_callD D_find_run hr (pa_cons (pv 0) (pa_cons (pv 1) pa_nil))))
   (pss_cons (ps_set (i:=3) nd rfl (Or.inl rfl) (pe_callD D_find_run hr (pa_cons (pv 0) (pa_cons (pe_op op_add (pv 1) pe_int) pa_nil))))
   (pss_one (ps_ret (pe_cmpR op_eq (pe_op op_mulB (pe_ix ix_tup (pv 2) pe_int (fun _ _=>rfl)) (pe_ix ix_tup (pv 3) pe_int (fun _ _=>rfl))) (pe_op op_mulB (pe_ix ix_tup (pv 2) pe_int (fun _ _=>rfl)) (pe_ix ix_tup (pv 3) pe_int (fun _ _=>rfl))) (nomark _)))))),?_⟩
  refine ⟨_,rfl,_,rfl,a,C,i,rfl,hC,hne,fun H1 p s1 e=>?_⟩
  refine ⟨_,rfl,_,rfl,_,_,rfl,rfl,a,C,i+1,rfl,hC.same s1,hne,fun H2 q s2 e2=>?_⟩
  have e:=s2 _ _ e
  refine ⟨_,rfl,p,_,_,_,rfl,rfl,SqT.of e,rfl,_,rfl,q,_,_,_,rfl,rfl,SqT.of e2,rfl,_,_,rfl,rfl,mulOk b1.1 b2.2 (by decide),?_⟩
  refine ⟨_,rfl,p,_,_,_,rfl,rfl,SqT.of e,rfl,_,rfl,q,_,_,_,rfl,rfl,SqT.of e2,rfl,_,_,rfl,rfl,mulOk b1.2 b2.1 (by decide),rfl,k _ _ ?_ (s1.trans s2)⟩
  simp
def side (a b p:Tri):Int:=(b.1 - a.1)*(p.2.1 - a.2.1) - (b.2.1 - a.2.1)*(p.1 - a.1)
def spSide:Sp:=fun vs H Q _=>∃ (pa pb pp:Addr) (a b p:Tri),vs=[.ref pa,.ref pb,.ref pp]/\XyAt H pa a/\XyAt H pb b/\XyAt H pp p/\Bd a/\Bd b/\Bd p/\∀ H',Same H H'->Q (.int (side a b p)) H'
theorem sc_find_side:FnScope ["start", "end", "point"] ["start", "end", "point"] (defScope s_find_side):=⟨rfl,rfl,rfl,by decide +kernel,rfl,by decide +kernel,by decide +kernel⟩
theorem ok_find_side (F:At K mg "find_side" s_find_side ["start", "end", "point"]) (T:Txt mg):Def P w K mg base "find_side" 1 ["start", "end", "point"] spSide:=by
 refine F.ok sc_find_side (fun vs H Q E h=>?_) (fun f cdv A outer s H vs Q E hr h=>?_)
 ·obtain ⟨_,_,_,_,_,_,rfl,_⟩:=h
  rfl
 ·obtain ⟨pa,pb,pp,a,b,p,rfl,⟨_,ha⟩,⟨_,hb⟩,⟨_,hp⟩,ba,bb,bp,k⟩:=h
  have nd:=sc_find_side.nd
  refine ⟨_,(pss_one (ps_ret (pe_op op_sub (pe_op op_mulB (pe_op op_sub (pe_ix ix_tup (pv 1) pe_int (fun _ _=>rfl)) (pe_ix ix_tup (pv 0) pe_int (fun _ _=>rfl))) (pe_op op_sub (pe_ix ix_tup (pv 2) pe_int (fun _ _=>rfl)) (pe_ix ix_tup (pv 0) pe_int (fun _ _=>rfl)))) (pe_op op_mulB (pe_op op_sub (pe_ix ix_tup (pv 1) pe_int (fun _ _=>rfl)) (pe_ix ix_tup (pv 0) pe_int (fun _ _=>rfl))) (pe_op op_sub (pe_ix ix_tup (pv 2) pe_int (fun _ _=>rfl)) (pe_ix ix_tup (pv 0) pe_int (fun _ _=>rfl))))))),?_⟩
  refine ⟨_,rfl,pb,_,_,_,rfl,rfl,SqT.of hb,at0,_,rfl,pa,_,_,_,rfl,rfl,SqT.of ha,at0,_,_,rfl,rfl,?_⟩
  refine ⟨_,rfl,pp,_,_,_,rfl,rfl,SqT.of hp,at1,_,rfl,pa,_,_,_,rfl,rfl,SqT.of ha,at1,_,_,rfl,rfl,_,_,rfl,rfl,mulOk (d65 bb.1 ba.1) (d65 bp.2 ba.2) (by decide),?_⟩
  refine ⟨_,rfl,pb,_,_,_,rfl,rfl,SqT.of hb,at1,_,rfl,pa,_,_,_,rfl,rfl,SqT.of ha,at1,_,_,rfl,rfl,?_⟩
  exact ⟨_,rfl,pp,_,_,_,rfl,rfl,SqT.of hp,at0,_,rfl,pa,_,_,_,rfl,rfl,SqT.of ha,at0,_,_,rfl,rfl,_,_,rfl,rfl,mulOk (d65 bb.2 ba.2) (d65 bp.1 ba.1) (by decide),_,_,rfl,rfl,k _ (Same.refl H)⟩
theorem side_bd {a b p:Tri} (ba:Bd a) (bb:Bd b) (bp:Bd p):(side a b p).natAbs < 2 ^ 131:=sub_bd (mul_bd (d65 bb.1 ba.1) (d65 bp.2 ba.2)) (mul_bd (d65 bb.2 ba.2) (d65 bp.1 ba.1))
def spAcross:Sp:=fun vs H Q _=>∃ (pf ps:Addr) (a b c d:Tri),vs=[.ref pf,.ref ps]/\EndsAt H pf a b/\EndsAt H ps c d/\Bd a/\Bd b/\Bd c/\Bd d/\∀ v H',(v=true↔side a b c*side a b d<=0)->Same H H'->Q (.bl v) H'
theorem sc_reaches_across:FnScope ["first", "second"] ["first", "second"] (defScope s_reaches_across):=⟨rfl,rfl,rfl,by decide +kernel,rfl,by decide +kernel,by decide +kernel⟩
theorem ok_reaches_across (F:At K mg "reaches_across" s_reaches_across ["first", "second"]) (T:Txt mg) (D_find_side:Def P w K mg base "find_side" 1 ["start", "end", "point"] spSide):Def P w K mg base "reaches_across" 2 ["first", "second"] spAcross:=by
 refine F.ok sc_reaches_across (fun vs H Q E h=>?_) (fun f cdv A outer s H vs Q E hr h=>?_)
 ·obtain ⟨_,_,_,_,_,_,rfl,_⟩:=h
  rfl
 ·obtain ⟨pf,ps,a,b,c,d,rfl,⟨q1,q2,ef,ha,hb⟩,⟨q3,q4,es,hc,hd⟩,ba,bb,bc,bd,k⟩:=h
  have nd:=sc_reaches_across.nd
  refine ⟨_,(pss_one (ps_ret (pe_cmpR op_le (pe_op op_mulB (pe_callD D_find_side hr (pa_cons (pe_ix ix_tup (pv 0) pe_int (fun _ _=>rfl)) (pa_cons (pe_ix ix_tup (pv 0) pe_int (fun _ _=>rfl)) (pa_cons (pe_ix ix_tup (pv 1) pe_int (fun _ _=>rfl)) pa_nil)))) (pe_callD D_find_side hr (pa_cons (pe_ix ix_tup (pv 0) pe_int (fun _ _=>rfl)) (pa_cons (pe_ix ix_tup (pv 0) pe_int (fun _ _=>rfl)) (pa_cons (pe_ix ix_tup (pv 1) pe_int (fun _ _=>rfl)) pa_nil))))) pe_int (nomark _)))),?_⟩
  refine ⟨_,rfl,pf,_,_,_,rfl,rfl,SqT.of ef,rfl,_,rfl,pf,_,_,_,rfl,rfl,SqT.of ef,rfl,_,rfl,ps,_,_,_,rfl,rfl,SqT.of es,rfl,q1,q2,q3,a,b,c,rfl,ha,hb,hc,ba,bb,bc,fun H1 s1=>?_⟩
  have ef:=s1 _ _ ef
  have es:=s1 _ _ es
  refine ⟨_,rfl,pf,_,_,_,rfl,rfl,SqT.of ef,rfl,_,rfl,pf,_,_,_,rfl,rfl,SqT.of ef,rfl,_,rfl,ps,_,_,_,rfl,rfl,SqT.of es,rfl,q1,q2,q4,a,b,d,rfl,ha.same s1,hb.same s1,hd.same s1,ba,bb,bd,fun H2 s2=>?_⟩
  refine ⟨_,_,rfl,rfl,mulOk (side_bd ba bb bc) (side_bd ba bb bd) (by decide),_,_,rfl,rfl,k _ _ ?_ (s1.trans s2)⟩
  simp
end
end Gn
namespace Gn
open PySem PySem.Spec PyProof.Rows L2 Lw
open PySem.W (Codec WData)
section
variable {P:Program} {w:World} {K:PySem.W.Frag} {mg:Str->Option Value} {base:Heap}
def co (c:Tri) (axis:Nat):Int:=if axis=0 then c.1 else c.2.1
def rangesM (a b c d:Tri) (x:Nat):Prop:=max (min (co a x) (co b x)) (min (co c x) (co d x))<=min (max (co a x) (co b x)) (max (co c x) (co d x))
def spRanges:Sp:=fun vs H Q _=>∃ (pf ps:Addr) (a b c d:Tri) (x:Nat),vs=[.ref pf,.ref ps,.int (x:Int)]/\EndsAt H pf a b/\EndsAt H ps c d/\x < 2/\∀ v H',(v=true↔rangesM a b c d x)->Same H H'->Q (.bl v) H'
theorem tri_at {c:Tri} {x:Nat} {r:List V} (h:x < 2):atI (V.int c.1 :: V.int c.2.1 :: r) (x:Int)=some (V.int (co c x)):=by
 have:x=0\/x=1:=by omega
 rcases this with rfl | rfl
 ·exact at0
 ·exact at1
theorem if_min (x y:Int):(if y < x then y else x)=min x y:=by
 rw [Int.min_def]
 by_cases l:y < x
 ·rw [if_pos l,if_neg (Int.not_le.mpr l)]
 ·rw [if_neg l,if_pos (Int.not_lt.mp l)]
theorem if_max (x y:Int):(if y > x then y else x)=max x y:=by
 rw [Int.max_def]
 by_cases l:x<=y
 ·rw [if_pos l]
  by_cases l2:y > x
  ·rw [if_pos l2]
  ·rw [if_neg l2]
   exact Int.le_antisymm l (Int.not_lt.mp l2)
 ·rw [if_neg l,if_neg fun z=>l (Int.le_of_lt z)]
theorem if_abs (x:Int):(if x < 0 then -x else x)=(x.natAbs:Int):=by
 by_cases c:x < 0
 ·rw [if_pos c,Int.ofNat_natAbs_of_nonpos (Int.le_of_lt c)]
 ·rw [if_neg c,Int.natAbs_of_nonneg (Int.not_lt.mp c)]
theorem sc_ranges_meet:FnScope ["first", "second", "axis", "lower", "upper"] ["first", "second", "axis"] (defScope s_ranges_meet):=⟨rfl,rfl,rfl,by decide +kernel,rfl,by decide +kernel,by decide +kernel⟩
theorem ok_ranges_meet (F:At K mg "ranges_meet" s_ranges_meet ["first", "second", "axis"]) (T:Txt mg):Def P w K mg base "ranges_meet" 1 ["first", "second", "axis"] spRanges:=by
 refine F.ok sc_ranges_meet (fun vs H Q E h=>?_) (fun f cdv A outer s H vs Q E hr h=>?_)
 ·obtain ⟨_,_,_,_,_,_,_,rfl,_⟩:=h
  rfl
 ·obtain ⟨pf,ps,a,b,c,d,x,rfl,⟨q1,q2,ef,⟨_,ha⟩,⟨_,hb⟩⟩,⟨q3,q4,es,⟨_,hc⟩,⟨_,hd⟩⟩,hx,k⟩:=h
  have nd:=sc_ranges_meet.nd
  refine ⟨_,(pss_cons (ps_set (i:=3) nd rfl (Or.inl rfl) (pe_callB (call_max2 rfl) (by rfl) T.b_max bt_max (pa_cons (pe_callB (call_min2 rfl) (by rfl) T.b_min bt_min (pa_cons (pe_ix ix_tup (pe_ix ix_tup (pv 0) pe_int (fun _ _=>rfl)) (pv 2) (fun _ _=>rfl)) (pa_cons (pe_ix ix_tup (pe_ix ix_tup (pv 0) pe_int (fun _ _=>rfl)) (pv 2) (fun _ _=>rfl)) pa_nil))) (pa_cons (pe_callB (call_min2 rfl) (by rfl) T.b_min bt_min (pa_cons (pe_ix ix_tup (pe_ix ix_tup (pv 1) pe_int (fun _ _=>rfl)) (pv 2) (fun _ _=>rfl)) (pa_cons (pe_ix ix_tup (pe_ix ix_tup (pv 1) pe_int (fun _ _=>rfl)) (pv 2) (fun _ _=>rfl)) pa_nil))) pa_nil))))
   (pss_cons (ps_set (i:=4) nd rfl (Or.inl rfl) (pe_callB (call_min2 rfl) (by rfl) T.b_min bt_min (pa_cons (pe_callB (call_max2 rfl) (by rfl) T.b_max bt_max (pa_cons (pe_ix ix_tup (pe_ix ix_tup (pv 0) pe_int (fun _ _=>rfl)) (pv 2) (fun _ _=>rfl)) (pa_cons (pe_ix ix_tup (pe_ix ix_tup (pv 0) pe_int (fun _ _=>rfl)) (pv 2) (fun _ _=>rfl)) pa_nil))) (pa_cons (pe_callB (call_max2 rfl) (by rfl) T.b_max bt_max (pa_cons (pe_ix ix_tup (pe_ix ix_tup (pv 1) pe_int (fun _ _=>rfl)) (pv 2) (fun _ _=>rfl)) (pa_cons (pe_ix ix_tup (pe_ix ix_tup (pv 1) pe_int (fun _ _=>rfl)) (pv 2) (fun _ _=>rfl)) pa_nil))) pa_nil))))
   (pss_one (ps_ret (pe_cmpR op_le (pv 3) (pv 4) (nomark _)))))),?_⟩
  refine ⟨_,rfl,pf,_,_,_,rfl,rfl,SqT.of ef,rfl,_,rfl,q1,_,_,_,rfl,rfl,SqT.of ha,tri_at hx,?_⟩
  refine ⟨_,rfl,pf,_,_,_,rfl,rfl,SqT.of ef,rfl,_,rfl,q2,_,_,_,rfl,rfl,SqT.of hb,tri_at hx,_,_,rfl,?_⟩
  refine ⟨_,rfl,ps,_,_,_,rfl,rfl,SqT.of es,rfl,_,rfl,q3,_,_,_,rfl,rfl,SqT.of hc,tri_at hx,?_⟩
  refine ⟨_,rfl,ps,_,_,_,rfl,rfl,SqT.of es,rfl,_,rfl,q4,_,_,_,rfl,rfl,SqT.of hd,tri_at hx,_,_,rfl,_,_,rfl,?_⟩
  refine ⟨_,rfl,pf,_,_,_,rfl,rfl,SqT.of ef,rfl,_,rfl,q1,_,_,_,rfl,rfl,SqT.of ha,tri_at hx,?_⟩
  refine ⟨_,rfl,pf,_,_,_,rfl,rfl,SqT.of ef,rfl,_,rfl,q2,_,_,_,rfl,rfl,SqT.of hb,tri_at hx,_,_,rfl,?_⟩
  refine ⟨_,rfl,ps,_,_,_,rfl,rfl,SqT.of es,rfl,_,rfl,q3,_,_,_,rfl,rfl,SqT.of hc,tri_at hx,?_⟩
  refine ⟨_,rfl,ps,_,_,_,rfl,rfl,SqT.of es,rfl,_,rfl,q4,_,_,_,rfl,rfl,SqT.of hd,tri_at hx,_,_,rfl,_,_,rfl,?_⟩
  refine ⟨_,rfl,_,rfl,_,_,rfl,rfl,k _ _ ?_ (Same.refl H)⟩
  unfold rangesM
  generalize co a x=a
  generalize co b x=b
  generalize co c x=c
  generalize co d x=d
  rw [decide_eq_true_iff]
  simp only [if_min,if_max]
def meetM (a b c d:Tri):Prop:=rangesM a b c d 0/\rangesM a b c d 1/\side a b c*side a b d<=0/\side c d a*side c d b<=0
def spMeet:Sp:=fun vs H Q _=>∃ (pf ps:Addr) (a b c d:Tri),vs=[.ref pf,.ref ps]/\EndsAt H pf a b/\EndsAt H ps c d/\Bd a/\Bd b/\Bd c/\Bd d/\∀ v H',(v=true↔meetM a b c d)->Same H H'->Q (.bl v) H'
theorem sc_lines_meet:FnScope ["first", "second"] ["first", "second"] (defScope s_lines_meet):=⟨rfl,rfl,rfl,by decide +kernel,rfl,by decide +kernel,by decide +kernel⟩
theorem ok_lines_meet (F:At K mg "lines_meet" s_lines_meet ["first", "second"]) (T:Txt mg) (D_ranges_meet:Def P w K mg base "ranges_meet" 1 ["first", "second", "axis"] spRanges) (D_reaches_across:Def P w K mg base "reaches_across" 2 ["first", "second"] spAcross):Def P w K mg base "lines_meet" 3 ["first", "second"] spMeet:=by
 refine F.ok sc_lines_meet (fun vs H Q E h=>?_) (fun f cdv A outer s H vs Q E hr h=>?_)
 ·obtain ⟨_,_,_,_,_,_,rfl,_⟩:=h
  rfl
 ·obtain ⟨pf,ps,a,b,c,d,rfl,ef,es,ba,bb,bc,bd,k⟩:=h
  have nd:=sc_lines_meet.nd
  refine ⟨_,(pss_cons (ps_if (pt_not (pt_and (pt_val (pe_callD D_ranges_meet hr (pa_cons (pv 0) (pa_cons (pv 1) (pa_cons pe_int pa_nil))))) (pw_and1 (pt_val (pe_callD D_ranges_meet hr (pa_cons (pv 0) (pa_cons (pv 1) (pa_cons pe_int pa_nil)))))))) (pss_one (ps_ret pe_bl)) pss_nil)
   (pss_one (ps_ret (pe_and (pe_callD D_reaches_across hr (pa_cons (pv 0) (pa_cons (pv 1) pa_nil))) (pe_one (pe_callD D_reaches_across hr (pa_cons (pv 1) (pa_cons (pv 0) pa_nil)))))))),?_⟩
  refine ⟨_,rfl,_,rfl,pf,ps,a,b,c,d,0,rfl,ef,es,by decide,fun v1 H1 h1 s1=>⟨_,rfl,?_⟩⟩
  refine ite2 (fun g1=>?_) (fun g1=>?_)
  ·refine ⟨_,rfl,_,rfl,pf,ps,a,b,c,d,1,rfl,ef.same s1,es.same s1,by decide,fun v2 H2 h2 s2=>⟨_,rfl,?_⟩⟩
   have s12:=s1.trans s2
   cases v2 with
   | false=>exact k _ _ (no_iff fun q=>by have:=h2.mpr q.2.1; cases this) s12
   | true =>
    refine ⟨_,rfl,_,rfl,pf,ps,a,b,c,d,rfl,ef.same s12,es.same s12,ba,bb,bc,bd,fun v3 H3 h3 s3=>⟨_,rfl,?_⟩⟩
    have s13:=s12.trans s3
    refine ite2 (fun g3=>?_) (fun g3=>?_)
    ·refine ⟨_,rfl,_,rfl,ps,pf,c,d,a,b,rfl,es.same s13,ef.same s13,bc,bd,ba,bb,fun v4 H4 h4 s4=>k _ _ ?_ (s13.trans s4)⟩
     rw [h4]
     exact ⟨fun q=>⟨h1.mp g1,h2.mp rfl,h3.mp g3,q⟩,fun q=>q.2.2.2⟩
    ·exact k _ _ (no_iff fun q=>g3 (h3.mpr q.2.2.1)) s13
  ·exact k _ _ (no_iff fun q=>g1 (h1.mpr q.1)) s1
def laterM (C:List Tri) (i:Nat):Prop:=∃ j,i+2<=j/\j < C.length/\(j+1) % C.length≠i/\meetM (atC C i) (atC C (i+1)) (atC C j) (atC C (j+1))
def spLater:Sp:=fun vs H Q _=>∃ (a:Addr) (C:List Tri) (i:Nat),vs=[.ref a,.int (i:Int)]/\CsAt H a C/\C≠[]/\C.length < 1000/\i < 1000/\(∀ c∈C,Bd c)/\∀ b H',(b=true↔laterM C i)->Same H H'->Q (.bl b) H'
theorem sc_meets_a_later_line:FnScope ["corners", "line", "other", "is_neighbour"] ["corners", "line"] (defScope s_meets_a_later_line):=⟨rfl,rfl,rfl,by decide +kernel,rfl,by decide +kernel,by decide +kernel⟩
theorem ok_meets_a_later_line (F:At K mg "meets_a_later_line" s_meets_a_later_line ["corners", "line"]) (T:Txt mg) (D_find_ends:Def P w K mg base "find_ends" 1 ["corners", "line"] spEnds) (D_lines_meet:Def P w K mg base "lines_meet" 3 ["first", "second"] spMeet):Def P w K mg base "meets_a_later_line" 4 ["corners", "line"] spLater:=by
 refine F.ok sc_meets_a_later_line (fun vs H Q E h=>?_) (fun f cdv A outer s H vs Q E hr h=>?_)
 ·obtain ⟨_,_,_,rfl,_⟩:=h
  rfl
 · obtain ⟨a, C, i, rfl, hC, hne, hl, hi, hb, k⟩ := h
   have nd:=sc_meets_a_later_line.nd
   obtain ⟨ps,h1,h2,_⟩:=hC.len
   have hpos:=List.length_pos_iff.mpr hne
   refine ⟨_,(pss_cons (ps_for PassesOwn.never rfl (pi_range2 (by rfl) T.b_range (pa_cons (pe_op op_add (pv 1) pe_int) (pa_cons (pe_callB call_len_seq (by rfl) T.b_len bt_len (pa_cons (pv 0) pa_nil)) pa_nil))) (pg_name (i:=2) nd rfl (Or.inl rfl)) (pss_cons (ps_set (i:=3) nd rfl (Or.inl rfl) (pe_cmpR op_eq (pe_op op_mod (pe_op op_add (pv 2) pe_int) (pe_callB call_len_seq (by rfl) T.b_len bt_len (pa_cons (pv 0) pa_nil))) (pv 1) (nomark _)))
     (pss_one (ps_if (pt_and (pt_not (pt_val (pv 3))) (pw_and1 (pt_val (pe_callD D_lines_meet hr (pa_cons (pe_callD D_find_ends hr (pa_cons (pv 0) (pa_cons (pv 1) pa_nil))) (pa_cons (pe_callD D_find_ends hr (pa_cons (pv 0) (pa_cons (pv 2) pa_nil))) pa_nil)))))) (pss_one (ps_ret pe_bl)) pss_nil))))
     (pss_one (ps_ret pe_bl))),?_⟩
   refine ⟨_,rfl,_,_,rfl,rfl,_,rfl,a,_,rfl,.inl (SqL.of h1),_,_,rfl,(by omega),?_⟩
   refine for_range (lo:=(i:Int)+2) (n:=(((ps.map V.ref).length:Nat) - ((i:Int)+2):Int).toNat)
     (fun m σ H'=>∃ v1 v2:Option V,σ=[some (.ref a),some (.int (i:Int)),v1,v2]/\Same H H'/\∀ j,i+2<=j->j < i+2+m->j < C.length->¬ ((j+1) % C.length≠i/\meetM (atC C i) (atC C (i+1)) (atC C j) (atC C (j+1))))
     ⟨none,none,rfl,Same.refl H,fun j x y=>absurd y (by omega)⟩ ?_ ?_
   · rintro m σ H1 hm ⟨v1,v2,rfl,s1,hn⟩
     have hj:i+2+m < C.length:=by omega
     have ej:(i:Int)+2+(m:Int)=((i+2+m:Nat):Int):=by omega
     rw [ej]
     have hp:(0:Int) < (((ps.map V.ref).length:Nat):Int):=by omega
     refine ⟨_,rfl,_,_,rfl,rfl,_,rfl,a,_,rfl,.inl (SqL.of (s1 _ _ h1)),_,_,rfl,rfl,hp,_,rfl,rfl,?_⟩
     have s1C:=hC.same s1
     refine ⟨_,rfl,_,rfl,?_⟩
     cases e:decide (V.int ((((i+2+m:Nat):Int)+1) % (((ps.map V.ref).length:Nat):Int))=V.int (i:Int)) with
     | true =>
       have e:(i+2+m+1) % C.length=i:=by
         have e:(((i+2+m:Nat):Int)+1) % (((ps.map V.ref).length:Nat):Int)=(i:Int):=by simpa using e
         rw [h2] at e
         exact_mod_cast e
       refine iteF (iteF ⟨_,_,rfl,s1,fun j x y z=>?_⟩)
       rcases Nat.lt_or_ge j (i+2+m) with c | c
       · exact hn j x c z
       · have:j=i+2+m:=by omega
         subst this
         exact fun q=>q.1 e
     | false =>
       have e:(i+2+m+1) % C.length≠i:=by
         have e:¬ (((i+2+m:Nat):Int)+1) % (((ps.map V.ref).length:Nat):Int)=(i:Int):=by simpa using e
         rw [h2] at e
         exact_mod_cast e
       refine iteT ⟨_,rfl,_,rfl,a,C,i,rfl,s1C,hne,fun H2 p s2 hE=>⟨_,rfl,_,rfl,a,C,i+2+m,rfl,s1C.same s2,hne,fun H3 q s3 hE3=>⟨p,q,_,_,_,_,rfl,hE.same s3,hE3,atC_bd hb _,atC_bd hb _,atC_bd hb _,atC_bd hb _,fun v H4 h4 s4=>⟨_,rfl,?_⟩⟩⟩⟩
       have s14:=s1.trans (s2.trans (s3.trans s4))
       refine ite2 (fun g=>?_) (fun g=>?_)
       · exact k _ _ ⟨fun _=>⟨i+2+m,by omega,hj,e,h4.mp g⟩,fun _=>rfl⟩ s14
       · refine ⟨_,_,rfl,s14,fun j x y z=>?_⟩
         rcases Nat.lt_or_ge j (i+2+m) with c | c
         · exact hn j x c z
         · have:j=i+2+m:=by omega
           subst this
           exact fun q=>g (h4.mpr q.2)
   · rintro σ H1 ⟨v1,v2,rfl,s1,hn⟩
     refine k _ _ (no_iff ?_) s1
     rintro ⟨j,x,y,z⟩
     exact hn j x (by omega) y z
end
end Gn
namespace Gn
open PySem PySem.Spec PyProof.Rows L2 Lw
open PySem.W (Codec WData)
section
variable {P:Program} {w:World} {K:PySem.W.Frag} {mg:Str->Option Value} {base:Heap}
def okTri (c:Tri):Prop:=(0<=c.1/\c.1<=4095)/\(0<=c.2.1/\c.2.1<=4095)/\(0<=c.2.2/\c.2.2<=7)
def dirM (C:List Tri) (i:Nat):Prop:=if runX C i=0\/runY C i=0 then runX C i≠runY C i else (runX C i).natAbs=(runY C i).natAbs
def straightM (C:List Tri) (i:Nat):Prop:=runX C i*runY C (i+1)=runY C i*runX C (i+1)
def brk (C:List Tri) (r i:Nat):Prop:=if r=3 then ¬ okTri (atC C i) else if r=4 then ¬ dirM C i else if r=5 then straightM C i else laterM C i
def spBrk:Sp:=fun vs H Q _=>∃ (a:Addr) (C:List Tri) (r i:Nat),vs=[.ref a,.int (r:Int),.int (i:Int)]/\CtAt H a C/\C.length < 1000/\i < C.length/\(∀ c∈C,Bd c)/\∀ b H',(b=true↔brk C r i)->Same H H'->Q (.bl b) H'
theorem sc_breaks_rule:FnScope ["corners", "rule", "wall"] ["corners", "rule", "wall"] (defScope s_breaks_rule):=⟨rfl,rfl,rfl,by decide +kernel,rfl,by decide +kernel,by decide +kernel⟩
theorem ok_breaks_rule (F:At K mg "breaks_rule" s_breaks_rule ["corners", "rule", "wall"]) (T:Txt mg) (D_is_corner:Def P w K mg base "is_corner" 2 ["corner"] spCorner) (D_runs_in_a_direction:Def P w K mg base "runs_in_a_direction" 3 ["corners", "line"] spDir)
  (D_goes_straight_on:Def P w K mg base "goes_straight_on" 3 ["corners", "line"] spStraight) (D_meets_a_later_line:Def P w K mg base "meets_a_later_line" 4 ["corners", "line"] spLater):Def P w K mg base "breaks_rule" 5 ["corners", "rule", "wall"] spBrk:=by
 refine F.ok sc_breaks_rule (fun vs H Q E h=>?_) (fun f cdv A outer s H vs Q E hr h=>?_)
 ·obtain ⟨_,_,_,_,rfl,_⟩:=h
  rfl
 · obtain ⟨a, C, r, i, rfl, hC, hl, hi, hb, k⟩ := h
   have nd:=sc_breaks_rule.nd
   have hne:C≠[]:=fun e=>by subst e; simp at hi
   obtain ⟨ps,h1,h2,h3⟩:=hC.len
   obtain ⟨p,e,t⟩:=h3 i hne
   rw [Nat.mod_eq_of_lt hi] at e
   refine ⟨_,(pss_cons (ps_if (pt_cmpR op_eq (pv 1) pe_int (nomark _)) (pss_one (ps_ret (pe_not (pe_callD D_is_corner hr (pa_cons (pe_ix ix_list (pv 0) (pv 2) (fun _ _=>rfl)) pa_nil))))) pss_nil)
     (pss_cons (ps_if (pt_cmpR op_eq (pv 1) pe_int (nomark _)) (pss_one (ps_ret (pe_not (pe_callD D_runs_in_a_direction hr (pa_cons (pv 0) (pa_cons (pv 2) pa_nil)))))) pss_nil)
     (pss_cons (ps_if (pt_cmpR op_eq (pv 1) pe_int (nomark _)) (pss_one (ps_ret (pe_callD D_goes_straight_on hr (pa_cons (pv 0) (pa_cons (pv 2) pa_nil))))) pss_nil)
     (pss_one (ps_ret (pe_callD D_meets_a_later_line hr (pa_cons (pv 0) (pa_cons (pv 2) pa_nil)))))))),?_⟩
   refine ⟨_,rfl,rfl,_,rfl,?_⟩
   refine ite2 (fun c=>?_) (fun c=>?_)
   · have c:r=3:=by
       have c:(r:Int)=3:=by simpa using c
       omega
     refine ⟨_,rfl,_,rfl,a,_,_,_,rfl,rfl,SqL.of h1,atI_nat e,p,_,rfl,t,fun v H1 hv s1=>⟨_,rfl,k _ _ ?_ s1⟩⟩
     unfold brk
     rw [if_pos c]
     cases v <;> simp at hv ⊢ <;> simpa [okTri] using hv
   · have c:¬ r=3:=by
       have c:¬ (r:Int)=3:=by simpa using c
       omega
     refine ⟨_,rfl,rfl,_,rfl,?_⟩
     refine ite2 (fun d=>?_) (fun d=>?_)
     · have d:r=4:=by
         have d:(r:Int)=4:=by simpa using d
         omega
       refine ⟨_,rfl,_,rfl,a,C,i,rfl,hC.cs,hne,fun v H1 hv s1=>⟨_,rfl,k _ _ ?_ s1⟩⟩
       unfold brk
       rw [if_neg c,if_pos d]
       unfold dirM
       rw [← hv]
       cases v <;> simp
     · have d:¬ r=4:=by
         have d:¬ (r:Int)=4:=by simpa using d
         omega
       refine ⟨_,rfl,rfl,_,rfl,?_⟩
       refine ite2 (fun g=>?_) (fun g=>?_)
       · have g:r=5:=by
           have g:(r:Int)=5:=by simpa using g
           omega
         refine ⟨_,rfl,_,rfl,a,C,i,rfl,hC.cs,hne,hb,fun v H1 hv s1=>k _ _ ?_ s1⟩
         unfold brk
         rw [if_neg c,if_neg d,if_pos g]
         exact hv
       · have g:¬ r=5:=by
           have g:¬ (r:Int)=5:=by simpa using g
           omega
         refine ⟨_,rfl,_,rfl,a,C,i,rfl,hC.cs,hne,hl,by omega,hb,fun v H1 hv s1=>k _ _ ?_ s1⟩
         unfold brk
         rw [if_neg c,if_neg d,if_neg g]
         exact hv
def areaTo (C:List Tri):Nat->Int
 | 0=>0
 | i+1=>areaTo C i+(atC C i).1*(atC C (i+1)).2.1 - (atC C (i+1)).1*(atC C i).2.1
def spArea:Sp:=fun vs H Q _=>∃ (a:Addr) (C:List Tri),vs=[.ref a]/\CsAt H a C/\C≠[]/\C.length < 1000/\(∀ c∈C,Bd c)/\∀ H',Same H H'->Q (.int (areaTo C C.length)) H'
theorem m64 {a b:Int} (ha:a.natAbs<=2 ^ 63) (hb:b.natAbs<=2 ^ 63):CMulB a b:=mulOk (m:=64) (n:=64) (by omega) (by omega) (by decide)
theorem sc_measure_twice:FnScope ["corners", "area", "line", "ends"] ["corners"] (defScope s_measure_twice):=⟨rfl,rfl,rfl,by decide +kernel,rfl,by decide +kernel,by decide +kernel⟩
theorem ok_measure_twice (F:At K mg "measure_twice" s_measure_twice ["corners"]) (T:Txt mg) (D_find_ends:Def P w K mg base "find_ends" 1 ["corners", "line"] spEnds):Def P w K mg base "measure_twice" 2 ["corners"] spArea:=by
 refine F.ok sc_measure_twice (fun vs H Q E h=>?_) (fun f cdv A outer s H vs Q E hr h=>?_)
 ·obtain ⟨_,_,rfl,_⟩:=h
  rfl
 ·obtain ⟨a,C,rfl,hC,hne,hl,hb,k⟩:=h
  have nd:=sc_measure_twice.nd
  obtain ⟨ps,h1,h2,_⟩:=hC.len
  refine ⟨_,(pss_cons (ps_set (i:=1) nd rfl (Or.inl rfl) pe_int)
   (pss_cons (ps_for PassesOwn.never rfl (pi_range1 (by rfl) T.b_range (pa_cons (pe_callB call_len_seq (by rfl) T.b_len bt_len (pa_cons (pv 0) pa_nil)) pa_nil)) (pg_name (i:=2) nd rfl (Or.inl rfl)) (pss_cons (ps_set (i:=3) nd rfl (Or.inl rfl) (pe_callD D_find_ends hr (pa_cons (pv 0) (pa_cons (pv 2) pa_nil))))
   (pss_one (ps_set (i:=1) nd rfl (Or.inl rfl) (pe_op op_sub (pe_op op_add (pv 1) (pe_op op_mulB (pe_ix ix_tup (pe_ix ix_tup (pv 3) pe_int (fun _ _=>rfl)) pe_int (fun _ _=>rfl)) (pe_ix ix_tup (pe_ix ix_tup (pv 3) pe_int (fun _ _=>rfl)) pe_int (fun _ _=>rfl)))) (pe_op op_mulB (pe_ix ix_tup (pe_ix ix_tup (pv 3) pe_int (fun _ _=>rfl)) pe_int (fun _ _=>rfl)) (pe_ix ix_tup (pe_ix ix_tup (pv 3) pe_int (fun _ _=>rfl)) pe_int (fun _ _=>rfl))))))))
   (pss_one (ps_ret (pv 1))))),?_⟩
  refine ⟨_,rfl,a,_,rfl,.inl (SqL.of h1),_,rfl,(by omega),(by omega),?_⟩
  refine for_range (lo:=0) (n:=(((ps.map V.ref).length:Nat):Int).toNat)
   (fun m σ H'=>∃ v1 v2:Option V,σ=[some (.ref a),some (.int (areaTo C m)),v1,v2]/\Same H H') ⟨none,none,rfl,Same.refl H⟩ ?_ ?_
  ·rintro m σ H1 hm ⟨v1,v2,rfl,s1⟩
   have ej:(0:Int)+(m:Int)=(m:Int):=by omega
   rw [ej]
   refine ⟨_,rfl,_,rfl,a,C,m,rfl,hC.same s1,hne,fun H2 p s2 hE=>?_⟩
   obtain ⟨q1,q2,ef,⟨_,ta⟩,⟨_,tb⟩⟩:=hE
   have b1:=atC_bd hb m
   have b2:=atC_bd hb (m+1)
   refine ⟨_,rfl,_,rfl,p,_,_,_,rfl,rfl,SqT.of ef,rfl,q1,_,_,_,rfl,rfl,SqT.of ta,at0,_,rfl,p,_,_,_,rfl,rfl,SqT.of ef,rfl,q2,_,_,_,rfl,rfl,SqT.of tb,at1,_,_,rfl,rfl,m64 b1.1 b2.2,_,_,rfl,rfl,?_⟩
   refine ⟨_,rfl,p,_,_,_,rfl,rfl,SqT.of ef,rfl,q2,_,_,_,rfl,rfl,SqT.of tb,at0,_,rfl,p,_,_,_,rfl,rfl,SqT.of ef,rfl,q1,_,_,_,rfl,rfl,SqT.of ta,at1,_,_,rfl,rfl,m64 b2.1 b1.2,_,_,rfl,rfl,?_⟩
   exact ⟨_,_,rfl,s1.trans s2⟩
  ·rintro σ H1 ⟨v1,v2,rfl,s1⟩
   have e:(((ps.map V.ref).length:Nat):Int).toNat=C.length:=by omega
   rw [e]
   exact ⟨_,rfl,k _ s1⟩
def triOf (ns:List Int) (i:Nat):Tri:=(ns.getD (3*i+3) 0,ns.getD (3*i+4) 0,ns.getD (3*i+5) 0)
def trisOf (ns:List Int):List Tri:=(List.range (ns.length / 3 - 1)).map (triOf ns)
def spCorners (K:PySem.W.Frag):Sp:=fun vs H Q _=>∃ (a:Addr) (ns:List Int),vs=[.ref a]/\SqL K H a (ns.map V.int)/\ns.length % 3=0/\3<=ns.length/\ns.length<=300/\∀ H' p,Same H H'->CtAt H' p (trisOf ns)->Q (.ref p) H'
theorem sc_list_corners:FnScope ["room", "place"] ["room"] (defScope s_list_corners):=⟨rfl,rfl,rfl,by decide +kernel,rfl,by decide +kernel,by decide +kernel⟩
theorem ok_list_corners (F:At K mg "list_corners" s_list_corners ["room"]) (T:Txt mg):Def P w K mg base "list_corners" 1 ["room"] (spCorners K):=by
 refine F.ok sc_list_corners (fun vs H Q E h=>?_) (fun f cdv A outer s H vs Q E hr h=>?_)
 ·obtain ⟨_,_,rfl,_⟩:=h
  rfl
 · obtain ⟨a, ns, rfl, hS, h3, hl, hm, k⟩ := h
   have nd:=sc_list_corners.nd
   refine ⟨_,(pss_one (ps_ret (pe_lc rfl nd (pi_range3 (by rfl) T.b_range (pa_cons pe_int (pa_cons (pe_callB call_len_seq (by rfl) T.b_len bt_len (pa_cons (pv 0) pa_nil)) (pa_cons pe_int pa_nil)))) (blkOk_by (own:=[("place",1)]) (by show blkC ["room", "place"] (defScope s_list_corners) _ _=true; decide +kernel)) (fun _ _ _ _ _=>(pg_name (i:=1) nd rfl (Or.inl rfl))) (fun _ _ _ _ _=>pts_nil) (fun _ _ _ _ _=>(pe_tup (pa_cons (pe_ix (show IxR _ (rIxL K) from ix_list) (pv 0) (pv 1) (fun _ _=>rfl)) (pa_cons (pe_ix (show IxR _ (rIxL K) from ix_list) (pv 0) (pe_op op_add (pv 1) pe_int) (fun _ _=>rfl)) (pa_cons (pe_ix (show IxR _ (rIxL K) from ix_list) (pv 0) (pe_op op_add (pv 1) pe_int) (fun _ _=>rfl)) pa_nil)))))))),?_⟩
   refine ⟨_,rfl,a,_,rfl,.inl hS,3,_,3,ns.length / 3 - 1,rfl,?_,fun D hD=>?_⟩
   · rw [List.length_map]
     refine rgC (by decide) (by decide) (by decide) (by decide) (by omega) (by omega) ?_
     split <;> omega
   · refine lc_rangeC (fun m H'=>∃ ps:List Addr,ps.length=m/\Same H H'/\H' D=some (.lst (ps.map V.ref))/\∀ (j:Nat) p,ps[j]? = some p->TriAt H' p (triOf ns j)) ⟨[],rfl,same_new hD,upd_same,fun j p h=>by simp at h⟩ ?_ ?_
     · rintro m H1 hm ⟨ps,hlen,s1,hD1,hps⟩
       have hS1:=s1.seq hS
       refine ⟨rfl,_,rfl,_,rfl,a,_,_,_,rfl,rfl,hS1,at_int (i:=3*m+3) (by omega) (by omega),_,rfl,_,rfl,_,_,rfl,rfl,a,_,_,_,rfl,rfl,hS1,at_int (i:=3*m+4) (by omega) (by omega),_,rfl,_,rfl,_,_,rfl,rfl,a,_,_,_,rfl,rfl,hS1,at_int (i:=3*m+5) (by omega) (by omega),?_⟩
       refine ⟨(by show 3<=sizeLine; decide),fun p hp=>⟨_,same_new hp _ _ hD1,?_,ps ++ [p],?_,?_,?_,?_⟩⟩
       · rw [List.length_map,hlen]
         exact Nat.lt_of_lt_of_le (show m < 300 by omega) (by decide)
       · simp [hlen]
       · exact upd_keep hD (s1.trans (same_new hp))
       · rw [List.map_append]
         exact upd_same
       · intro j q hq
         have hne:∀ q' c,TriAt (upd H1 p (.tup [.int (triOf ns m).1,.int (triOf ns m).2.1,.int (triOf ns m).2.2])) q' c->q'≠D:=fun q' c t e=>by
           subst e
           have t':upd H1 p (.tup [.int (triOf ns m).1,.int (triOf ns m).2.1,.int (triOf ns m).2.2]) q'=some (.lst (ps.map V.ref)):=same_new hp _ _ hD1
           have:=t.symm.trans t'
           cases this
         have key:TriAt (upd H1 p (.tup [.int (triOf ns m).1,.int (triOf ns m).2.1,.int (triOf ns m).2.2])) q (triOf ns j):=by
           by_cases c:j < ps.length
           · rw [List.getElem?_append_left c] at hq
             exact (hps j q hq).same (same_new hp)
           · have c2:j=ps.length:=by
               have:=(List.getElem?_eq_some_iff.mp hq).1
               simp at this
               omega
             subst c2
             simp at hq
             subst hq
             rw [hlen]
             exact upd_same
         show upd _ D _ q=_
         rw [upd_ne (hne q _ key)]
         exact key
     · rintro H1 ⟨ps,hlen,s1,hD1,hps⟩
       refine k _ D s1 ⟨ps,hD1,?_,?_⟩
       · unfold trisOf
         rw [hlen]
         simp
       · intro j p c e1 e2
         unfold trisOf at e2
         rw [List.getElem?_map] at e2
         cases e3:(List.range (ns.length / 3 - 1))[j]? with
         | none=>rw [e3] at e2; cases e2
         | some j' =>
           rw [e3] at e2
           have:j'=j:=by
             have:=List.getElem?_eq_some_iff.mp e3
             obtain ⟨h,e⟩:=this
             simp at e
             exact e.symm
           subst this
           cases e2
           exact hps _ p e1
end
end Gn
namespace Gn
open PySem PySem.Spec PyProof.Rows L2 Lw
open PySem.W (Codec WData)
section
variable {P:Program} {w:World} {K:PySem.W.Frag} {mg:Str->Option Value} {base:Heap}
def lenOk (ns:List Int):Prop:=ns.length % 3=0/\3<=ns.length / 3 - 1/\ns.length / 3 - 1<=64
def headOk (ns:List Int):Prop:=(1<=ns.getD 0 0/\ns.getD 0 0<=4095)/\(0<=ns.getD 1 0/\ns.getD 1 0<=7)/\(0<=ns.getD 2 0/\ns.getD 2 0<=7)
def FaultIs (ns:List Int) (o:Option (Nat×Nat)):Prop :=
 (¬ lenOk ns/\o=some (1,0))\/(lenOk ns/\¬ headOk ns/\o=some (2,0)) \/
 (lenOk ns/\headOk ns/\∃ r i,3<=r/\r<=6/\i < (trisOf ns).length/\brk (trisOf ns) r i/\(∀ r' i',3<=r'->r' < r->i' < (trisOf ns).length->¬ brk (trisOf ns) r' i')/\(∀ i',i' < i->¬ brk (trisOf ns) r i')/\o=some (r,i)) \/
 (lenOk ns/\headOk ns/\(∀ r i,3<=r->r<=6->i < (trisOf ns).length->¬ brk (trisOf ns) r i)/\((areaTo (trisOf ns) (trisOf ns).length < 0/\o=some (7,0))\/(¬ areaTo (trisOf ns) (trisOf ns).length < 0/\o=none)))
def optP (H:Hp) (v:V):Option (Nat×Nat)->Prop
 | none=>v=.non
 | some (r,i)=>∃ p,v=.ref p/\H p=some (.tup [.int (r:Int),.int (i:Int)])
def spRoomFault (K:PySem.W.Frag):Sp:=fun vs H Q _=>∃ (a:Addr) (ns:List Int),vs=[.ref a]/\SqL K H a (ns.map V.int)/\ns.length<=300/\(∀ x∈ns,x.natAbs<=2 ^ 63)/\∀ o v H',FaultIs ns o->optP H' v o->Same H H'->Q v H'
theorem getD_bd {ns:List Int} (h:∀ x∈ns,x.natAbs<=2 ^ 63) (i:Nat):(ns.getD i 0).natAbs<=2 ^ 63:=by
 rw [List.getD_eq_getElem?_getD]
 cases e:ns[i]? with
 | none=>decide
 | some c=>exact h c (List.mem_of_getElem? e)
theorem tris_bd {ns:List Int} (h:∀ x∈ns,x.natAbs<=2 ^ 63):∀ c∈trisOf ns,Bd c:=by
 intro c hc
 obtain ⟨i,_,rfl⟩:=List.mem_map.mp hc
 exact ⟨getD_bd h _,getD_bd h _⟩
theorem tris_len (ns:List Int):(trisOf ns).length=ns.length / 3 - 1:=by simp [trisOf]
theorem rule_at {m:Nat} {x:V} (h:[V.int 3,V.int 4,V.int 5,V.int 6][m]? = some x):m < 4/\x=.int ((3+m:Nat):Int):=by
 match m,h with
 | 0,h=>cases h; exact ⟨by decide,rfl⟩
 | 1,h=>cases h; exact ⟨by decide,rfl⟩
 | 2,h=>cases h; exact ⟨by decide,rfl⟩
 | 3,h=>cases h; exact ⟨by decide,rfl⟩
theorem sc_find_room_fault:FnScope ["room", "corners", "rule", "wall"] ["room"] (defScope s_find_room_fault):=⟨rfl,rfl,rfl,by decide +kernel,rfl,by decide +kernel,by decide +kernel⟩
theorem ok_find_room_fault (F:At K mg "find_room_fault" s_find_room_fault ["room"]) (T:Txt mg) (D_has_right_length:Def P w K mg base "has_right_length" 1 ["room"] (spLenOk K)) (D_has_right_head:Def P w K mg base "has_right_head" 2 ["room"] (spHeadOk K))
  (D_list_corners:Def P w K mg base "list_corners" 1 ["room"] (spCorners K)) (D_breaks_rule:Def P w K mg base "breaks_rule" 5 ["corners", "rule", "wall"] spBrk) (D_measure_twice:Def P w K mg base "measure_twice" 2 ["corners"] spArea):Def P w K mg base "find_room_fault" 6 ["room"] (spRoomFault K):=by
 refine F.ok sc_find_room_fault (fun vs H Q E h=>?_) (fun f cdv A outer s H vs Q E hr h=>?_)
 ·obtain ⟨_,_,rfl,_⟩:=h
  rfl
 · obtain ⟨a, ns, rfl, hS, hl, hb, k⟩ := h
   have nd:=sc_find_room_fault.nd
   refine ⟨_,(pss_cons (ps_if (pt_not (pt_val (pe_callD D_has_right_length hr (pa_cons (pv 0) pa_nil)))) (pss_one (ps_ret (pe_tup (pa_cons pe_int (pa_cons pe_int pa_nil))))) pss_nil)
     (pss_cons (ps_if (pt_not (pt_val (pe_callD D_has_right_head hr (pa_cons (pv 0) pa_nil)))) (pss_one (ps_ret (pe_tup (pa_cons pe_int (pa_cons pe_int pa_nil))))) pss_nil)
     (pss_cons (ps_set (i:=1) nd rfl (Or.inl rfl) (pe_callD D_list_corners hr (pa_cons (pv 0) pa_nil)))
     (pss_cons (ps_for PassesOwn.never rfl (pi_tup (pe_tup (pa_cons pe_int (pa_cons pe_int (pa_cons pe_int (pa_cons pe_int pa_nil)))))) (pg_name (i:=2) nd rfl (Or.inl rfl)) (pss_one (ps_for PassesOwn.never rfl (pi_range1 (by rfl) T.b_range (pa_cons (pe_callB call_len_seq (by rfl) T.b_len bt_len (pa_cons (pv 1) pa_nil)) pa_nil)) (pg_name (i:=3) nd rfl (Or.inl rfl)) (pss_one (ps_if (pt_val (pe_callD D_breaks_rule hr (pa_cons (pv 1) (pa_cons (pv 2) (pa_cons (pv 3) pa_nil))))) (pss_one (ps_ret (pe_tup (pa_cons (pv 2) (pa_cons (pv 3) pa_nil))))) pss_nil)))))
     (pss_cons (ps_if (pt_cmpR op_lt (pe_callD D_measure_twice hr (pa_cons (pv 1) pa_nil)) pe_int (nomark _)) (pss_one (ps_ret (pe_tup (pa_cons pe_int (pa_cons pe_int pa_nil))))) pss_nil)
     (pss_one (ps_ret pe_non))))))),?_⟩
   refine ⟨_,rfl,a,_,rfl,hS,fun b1 H1 h1 s1=>⟨_,rfl,?_⟩⟩
   rw [List.length_map] at h1
   cases b1 with
   | false =>
     have g:¬ lenOk ns:=fun q=>by have:=h1.mpr q; cases this
     refine ⟨(by show 2<=sizeLine; decide),fun p hp=>?_⟩
     exact k (some (1,0)) _ _ (.inl ⟨g,rfl⟩) ⟨p,rfl,upd_same⟩ (s1.trans (same_new hp))
   | true =>
     have g1:lenOk ns:=h1.mp rfl
     refine ⟨_,rfl,a,_,rfl,s1.seq hS,(by have:=g1.2.1; omega),fun b2 H2 h2 s2=>⟨_,rfl,?_⟩⟩
     cases b2 with
     | false =>
       have g:¬ headOk ns:=fun q=>by have:=h2.mpr q; cases this
       refine ⟨(by show 2<=sizeLine; decide),fun p hp=>?_⟩
       exact k (some (2,0)) _ _ (.inr (.inl ⟨g1,g,rfl⟩)) ⟨p,rfl,upd_same⟩ (s1.trans (s2.trans (same_new hp)))
     | true =>
       have g2:headOk ns:=h2.mp rfl
       have bd:=tris_bd hb
       have tl:=tris_len ns
       refine ⟨_,rfl,a,ns,rfl,(s1.trans s2).seq hS,g1.1,(by have:=g1.2.1; omega),hl,fun H3 c s3 hC=>?_⟩
       refine ⟨(by show 4<=sizeLine; decide),fun t ht=>⟨t,rfl,⟨_,SqT.of upd_same⟩,?_⟩⟩
       have sc:Same H (upd H3 t (.tup [.int 3,.int 4,.int 5,.int 6])):=(s1.trans (s2.trans s3)).trans (same_new ht)
       have hC:=hC.same (same_new (o:=.tup [.int 3,.int 4,.int 5,.int 6]) ht)
       have hT:upd H3 t (.tup [.int 3,.int 4,.int 5,.int 6]) t=some (.tup [.int 3,.int 4,.int 5,.int 6]):=upd_same
       generalize upd H3 t (.tup [.int 3,.int 4,.int 5,.int 6])=HT at sc hC hT
       have hne:trisOf ns≠[]:=fun e=>by
         have:(trisOf ns).length=0:=by rw [e]; rfl
         have:=g1.2.1
         omega
       have hlt:(trisOf ns).length < 1000:=by omega
       obtain ⟨ps,h1,h2,_⟩:=hC.len
       refine for_tup (K:=K) (a:=t) (xs:=[.int 3,.int 4,.int 5,.int 6]) (fun m σ H'=>∃ v1 v2:Option V,σ=[some (.ref a),some (.ref c),v1,v2]/\Same HT H'/\∀ r' i',3<=r'->r' < 3+m->i' < (trisOf ns).length->¬ brk (trisOf ns) r' i')
         ⟨none,none,rfl,Same.refl _,fun r' i' x y=>absurd y (by omega)⟩ (fun m σ H' _ ⟨_,_,_,s5,_⟩=>SqT.of (s5 _ _ hT)) ?_ ?_
       · rintro m x σ H4 hx ⟨v1,v2,rfl,s4,hn⟩
         obtain ⟨hm,rfl⟩:=rule_at hx
         refine ⟨_,rfl,c,_,rfl,.inl (SqL.of (s4 _ _ h1)),_,rfl,(by omega),(by omega),?_⟩
         refine for_range (lo:=0) (n:=(((ps.map V.ref).length:Nat):Int).toNat)
           (fun m2 σ H'=>∃ v2:Option V,σ=[some (.ref a),some (.ref c),some (.int ((3+m:Nat):Int)),v2]/\Same HT H'/\∀ i',i' < m2->¬ brk (trisOf ns) (3+m) i') ⟨_,rfl,s4,fun i' x=>absurd x (by omega)⟩ ?_ ?_
         · rintro i σ H5 hi ⟨v3,rfl,s5,hn2⟩
           have ej:(0:Int)+(i:Int)=(i:Int):=by omega
           rw [ej]
           have hi:i < (trisOf ns).length:=by omega
           refine ⟨_,rfl,_,rfl,_,rfl,c,trisOf ns,3+m,i,rfl,hC.same s5,hlt,hi,bd,fun b H6 h6 s6=>⟨_,rfl,?_⟩⟩
           refine ite2 (fun g=>?_) (fun g=>?_)
           · refine ⟨_,rfl,_,rfl,(by show 2<=sizeLine; decide),fun p hp=>?_⟩
             exact k (some (3+m,i)) _ _ (.inr (.inr (.inl ⟨g1,g2,3+m,i,by omega,by omega,hi,h6.mp g,hn,hn2,rfl⟩))) ⟨p,rfl,upd_same⟩ (sc.trans (s5.trans (s6.trans (same_new hp))))
           · refine ⟨_,rfl,s5.trans s6,fun i' hi'=>?_⟩
             rcases Nat.lt_succ_iff_lt_or_eq.mp hi' with q | q
             · exact hn2 i' q
             · subst q
               exact fun z=>g (h6.mpr z)
         · rintro σ H5 ⟨v3,rfl,s5,hn2⟩
           refine ⟨_,_,rfl,s5,fun r' i' x y z=>?_⟩
           rcases Nat.lt_or_ge r' (3+m) with q | q
           · exact hn r' i' x q z
           · have e:r'=3+m:=by omega
             subst e
             exact hn2 i' (by omega)
       · rintro σ H4 ⟨v1,v2,rfl,s4,hn⟩
         have hn:∀ r i,3<=r->r<=6->i < (trisOf ns).length->¬ brk (trisOf ns) r i:=fun r i x y z=>hn r i x (by show r < 3+4; omega) z
         refine ⟨_,rfl,c,_,rfl,(hC.same s4).cs,hne,hlt,bd,fun H5 s5=>⟨_,_,rfl,rfl,_,rfl,?_⟩⟩
         refine ite2 (fun g=>?_) (fun g=>?_)
         · have g:areaTo (trisOf ns) (trisOf ns).length < 0:=by simpa using g
           refine ⟨(by show 2<=sizeLine; decide),fun p hp=>?_⟩
           exact k (some (7,0)) _ _ (.inr (.inr (.inr ⟨g1,g2,hn,.inl ⟨g,rfl⟩⟩))) ⟨p,rfl,upd_same⟩ (sc.trans (s4.trans (s5.trans (same_new hp))))
         · have g:¬ areaTo (trisOf ns) (trisOf ns).length < 0:=by simpa using g
           exact k none _ _ (.inr (.inr (.inr ⟨g1,g2,hn,.inr ⟨g,rfl⟩⟩))) rfl (sc.trans (s4.trans s5))
end
end Gn
namespace Gn
open PySem PySem.Spec PyProof.Rows L2 Lw
open PySem.W (Codec WData)
section
variable {P:Program} {w:World} {K:PySem.W.Frag} {mg:Str->Option Value} {base:Heap}
def bookFault (ns:List Int):Option Nat:=if ns.length≠36 then some ns.length else ns.findIdx? fun x=>decide (32768 < x)
theorem find_at {ns:List Int} {i:Nat} {z:Int} (hz:ns[i]? = some z) (c:32768 < z) (hb:∀ j x,j < i->ns[j]? = some x->¬ 32768 < x):(ns.findIdx? fun x=>decide (32768 < x))=some i:=by
 rw [List.findIdx?_eq_some_iff_getElem]
 obtain ⟨h,e⟩:=List.getElem?_eq_some_iff.mp hz
 refine ⟨h,by rw [e]; exact decide_eq_true c,fun j hj=>?_⟩
 have:=hb j _ hj (List.getElem?_eq_getElem (Nat.lt_trans hj h))
 simpa using this
theorem find_no {ns:List Int} (hb:∀ j x,j < ns.length->ns[j]? = some x->¬ 32768 < x):(ns.findIdx? fun x=>decide (32768 < x))=none:=by
 rw [List.findIdx?_eq_none_iff]
 intro x hx
 obtain ⟨j,hj,e⟩:=List.mem_iff_getElem.mp hx
 have:=hb j x hj (by rw [List.getElem?_eq_getElem hj,e])
 simpa using this
def optV:Option Nat->V
 | none=>.non
 | some n=>.int n
def spFault (K:PySem.W.Frag):Sp:=fun vs H Q _=>∃ (a:Addr) (ns:List Int),vs=[.ref a]/\SqL K H a (ns.map V.int)/\∀ H',Same H H'->Q (optV (bookFault ns)) H'
theorem sc_find_book_fault:FnScope ["book", "place", "part"] ["book"] (defScope s_find_book_fault):=⟨rfl,rfl,rfl,by decide +kernel,rfl,by decide +kernel,by decide +kernel⟩
theorem ok_find_book_fault (F:At K mg "find_book_fault" s_find_book_fault ["book"]) (T:Txt mg):Def P w K mg base "find_book_fault" 1 ["book"] (spFault K):=by
 refine F.ok sc_find_book_fault (fun vs H Q E h=>?_) (fun f cdv A outer s H vs Q E hr h=>?_)
 ·obtain ⟨a,ns,rfl,_⟩:=h
  rfl
 · obtain ⟨a, ns, rfl, hS, k⟩ := h
   have nd:=sc_find_book_fault.nd
   refine ⟨_,(pss_cons (ps_if (pt_cmpR op_ne (pe_callB call_len_seq (by rfl) T.b_len bt_len (pa_cons (pv 0) pa_nil)) (pe_gE (by rfl) T.c_BOOK_LENGTH) (nomark _)) (pss_one (ps_ret (pe_callB call_len_seq (by rfl) T.b_len bt_len (pa_cons (pv 0) pa_nil)))) pss_nil)
     (pss_cons (ps_for PassesOwn.never rfl (pi_enum (by rfl) T.b_enumerate (pa_cons (pv 0) pa_nil)) (pg_tup rfl (pgs_cons (pg_name (i:=1) nd rfl (Or.inl rfl)) (pgs_cons (pg_name (i:=2) nd rfl (Or.inl rfl)) pgs_nil))) (pss_one (ps_if (pt_cmpR op_gt (pv 2) (pe_gE (by rfl) T.c_WHOLE_PART) (nomark _)) (pss_one (ps_ret (pv 1))) pss_nil)))
     (pss_one (ps_ret pe_non)))),?_⟩
   refine ⟨_,rfl,a,_,rfl,.inl hS,rfl,_,rfl,?_⟩
   rw [List.length_map]
   refine ite2 (fun c=>?_) (fun c=>?_)
   · refine ⟨_,rfl,a,_,rfl,.inl hS,?_⟩
     rw [List.length_map]
     have e:bookFault ns=some ns.length:=if_pos (by intro z; rw [z] at c; simp at c)
     have:=k H (Same.refl H)
     rw [e] at this
     exact this
   · have c:ns.length=36:=by
       have c:(ns.length:Int)=36:=by simpa using c
       omega
     have e:bookFault ns=ns.findIdx? fun x=>decide (32768 < x):=if_neg (by rw [c]; decide)
     rw [e] at k
     refine ⟨_,rfl,a,_,rfl,hS,for_enum (K:=K) (a:=a) (xs:=ns.map V.int)
       (fun i σ H'=>∃ v1 v2:Option V,σ=[some (.ref a),v1,v2]/\Same H H'/\∀ j x,j < i->ns[j]? = some x->¬ 32768 < x) ⟨none,none,rfl,Same.refl H,fun j x hj _=>absurd hj (Nat.not_lt_zero j)⟩ (fun i σ H' _ ⟨_,_,_,s5,_⟩=>s5.seq hS) ?_ ?_⟩
     · rintro i y σ H' T' hi ⟨v1,v2,rfl,s5,hb⟩ hT
       obtain ⟨z,hz,rfl⟩:=int_at hi
       refine ⟨T',_,rfl,SqT.of upd_same,rfl,_,_,rfl,_,_,rfl,rfl,?_⟩
       refine ⟨_,rfl,_,_,rfl,rfl,_,rfl,?_⟩
       have s6:Same H (upd H' T' (.tup [.int (i:Nat),.int z])):=s5.trans (same_new hT)
       refine ite2 (fun c=>?_) (fun c=>?_)
       · refine ⟨_,rfl,?_⟩
         have e:(ns.findIdx? fun x=>decide (32768 < x))=some i:=find_at hz (by simpa using c) hb
         rw [e] at k
         exact k _ s6
       · refine ⟨_,_,rfl,s6,fun j x hj hx=>?_⟩
         rcases Nat.lt_succ_iff_lt_or_eq.mp hj with q | q
         · exact hb j x q hx
         · subst q
           rw [hz] at hx
           cases hx
           simpa using c
     · rintro σ H' ⟨v1,v2,rfl,s5,hb⟩
       have e:(ns.findIdx? fun x=>decide (32768 < x))=none:=find_no (by rw [List.length_map] at hb; exact hb)
       rw [e] at k
       exact k H' s5
def spRoot:Sp:=fun vs H Q _=>∃ n:Nat,vs=[.int (n:Int)]/\n < 2 ^ 200/\∀ H',Same H H'->Q (.int (Eh.root n:Nat)) H'
theorem step_bits {s:Nat} (h:s<=2 ^ 100):((s:Nat):Int).natAbs < 2 ^ 101:=by
 rw [Int.natAbs_natCast]
 omega
theorem sc_find_root:FnScope ["number", "step", "root"] ["number"] (defScope s_find_root):=⟨rfl,rfl,rfl,by decide +kernel,rfl,by decide +kernel,by decide +kernel⟩
theorem ok_find_root (F:At K mg "find_root" s_find_root ["number"]) (T:Txt mg):Def P w K mg base "find_root" 1 ["number"] spRoot:=by
 refine F.ok sc_find_root (fun vs H Q E h=>?_) (fun f cdv A outer s H vs Q E hr h=>?_)
 ·obtain ⟨_,rfl,_⟩:=h
  rfl
 · obtain ⟨n, rfl, hn, k⟩ := h
   have nd:=sc_find_root.nd
   refine ⟨_,(pss_cons (ps_set (i:=1) nd rfl (Or.inl rfl) pe_int)
     (pss_cons (ps_while PassesOwn.never (pt_cmpR op_le (pe_op op_mulB (pv 1) (pv 1)) (pv 0) (nomark _)) (pss_one (ps_set (i:=1) nd rfl (Or.inl rfl) (pe_op op_mulB (pv 1) pe_int))))
     (pss_cons (ps_set (i:=2) nd rfl (Or.inl rfl) pe_int)
     (pss_cons (ps_while PassesOwn.never (pt_cmpR op_gt (pv 1) pe_int (nomark _)) (pss_cons (ps_if (pt_cmpR op_le (pe_op op_mulB (pe_op op_add (pv 2) (pv 1)) (pe_op op_add (pv 2) (pv 1))) (pv 0) (nomark _)) (pss_one (ps_set (i:=2) nd rfl (Or.inl rfl) (pe_op op_add (pv 2) (pv 1)))) pss_nil)
     (pss_one (ps_set (i:=1) nd rfl (Or.inl rfl) (pe_op op_fdivB (pv 1) pe_int)))))
     (pss_one (ps_ret (pv 2))))))),?_⟩
   refine ⟨fun m σ H'=>∃ j,m=100 - j/\j<=100/\σ=[some (.int (n:Int)),some (.int ((2 ^ j:Nat):Int)),none]/\Same H H',⟨100,0,rfl,by decide,rfl,Same.refl H⟩,?_⟩
   rintro m σ H1 ⟨j,rfl,hj,rfl,s1⟩
   have sb:(2:Nat) ^ j<=2 ^ 100:=Nat.pow_le_pow_right (by decide) hj
   refine ⟨_,rfl,_,rfl,_,_,rfl,rfl,mulOk (step_bits sb) (step_bits sb) (by decide),_,rfl,_,_,rfl,rfl,_,rfl,?_⟩
   refine ite2 (fun c=>?_) (fun c=>?_)
   · have c:2 ^ j*2 ^ j<=n:=by
       have c:((2 ^ j:Nat):Int)*((2 ^ j:Nat):Int)<=(n:Int):=by simpa using c
       exact_mod_cast c
     have hj2:j < 100:=by
       rcases Nat.lt_or_ge j 100 with q | q
       · exact q
       · have e:j=100:=by omega
         subst e
         have:2 ^ 100*2 ^ 100=2 ^ 200:=by decide
         omega
     refine ⟨fun σ' H'=>∃ m',m' < 100 - j/\∃ j',m'=100 - j'/\j'<=100/\σ'=[some (.int (n:Int)),some (.int ((2 ^ j':Nat):Int)),none]/\Same H H',fun _ _ h=>h,?_⟩
     refine ⟨_,rfl,_,_,rfl,rfl,mulOk (step_bits sb) (show (2:Int).natAbs < 2 ^ 2 by decide) (by decide),?_⟩
     refine ⟨100 - (j+1),by omega,j+1,rfl,hj2,?_,s1⟩
     have e:((2 ^ j:Nat):Int)*2=((2 ^ (j+1):Nat):Int):=by
       rw [Nat.pow_succ]
       simp
     rw [← e]
     rfl
   · have c:n < 2 ^ j*2 ^ j:=by
       have c:¬ ((2 ^ j:Nat):Int)*((2 ^ j:Nat):Int)<=(n:Int):=by simpa using c
       have c:¬ (2 ^ j*2 ^ j)<=n:=fun q=>c (by exact_mod_cast q)
       omega
     refine ⟨fun m σ H'=>∃ st rt:Nat,(st=0/\m=0\/∃ i,st=2 ^ i/\i<=100/\m=i+1)/\σ=[some (.int (n:Int)),some (.int (st:Int)),some (.int (rt:Int))]/\Same H H'/\rt*rt<=n/\n < (rt+(if st=0 then 1 else 2*st))*(rt+(if st=0 then 1 else 2*st)),
       ⟨j+1,2 ^ j,0,.inr ⟨j,rfl,hj,rfl⟩,rfl,s1,by simp,?_⟩,?_⟩
     · have p:0 < 2 ^ j:=Nat.pow_pos (by decide)
       rw [if_neg (by omega)]
       refine Nat.lt_of_lt_of_le c (Nat.mul_le_mul ?_ ?_) <;> omega
     · rintro m σ H2 ⟨st,rt,hst,rfl,s2,h1,h2⟩
       have hst100:st<=2 ^ 100:=by
         rcases hst with ⟨z,_⟩ | ⟨i,rfl,hi,_⟩
         · omega
         · exact Nat.pow_le_pow_right (by decide) hi
       have hrt:rt < 2 ^ 100:=by
         rcases Nat.lt_or_ge rt (2 ^ 100) with q | q
         · exact q
         · have:=Nat.mul_le_mul q q
           have e:2 ^ 100*2 ^ 100=2 ^ 200:=by decide
           omega
       refine ⟨_,rfl,_,_,rfl,rfl,_,rfl,?_⟩
       refine ite2 (fun d=>?_) (fun d=>?_)
       · have d:0 < st:=by
           have d:(0:Int) < (st:Int):=by simpa using d
           omega
         obtain ⟨i,rfl,hi,rfl⟩:∃ i,st=2 ^ i/\i<=100/\m=i+1:=by
           rcases hst with ⟨z,_⟩ | q
           · omega
           · exact q
         rw [if_neg (by omega)] at h2
         refine ⟨fun σ' H'=>∃ m',m' < i+1/\∃ st rt:Nat,(st=0/\m'=0\/∃ i,st=2 ^ i/\i<=100/\m'=i+1)/\σ'=[some (.int (n:Int)),some (.int (st:Int)),some (.int (rt:Int))]/\Same H H'/\rt*rt<=n/\n < (rt+(if st=0 then 1 else 2*st))*(rt+(if st=0 then 1 else 2*st)),fun _ _ h=>h,?_⟩
         have sb:((rt:Int)+((2 ^ i:Nat):Int)).natAbs < 2 ^ 102:=by omega
         have e2:((2 ^ i:Nat):Int) / 2=((2 ^ i / 2:Nat):Int):=by omega
         have next:∀ (r:Nat) (H3:Hp),Same H H3->r*r<=n->n < (r+2 ^ i)*(r+2 ^ i)->∃ m',m' < i+1/\∃ st rt:Nat,(st=0/\m'=0\/∃ i,st=2 ^ i/\i<=100/\m'=i+1)/\[some (V.int (n:Int)),some (.int (((2 ^ i:Nat):Int) / 2)),some (.int (r:Int))]=[some (.int (n:Int)),some (.int (st:Int)),some (.int (rt:Int))]/\Same H H3/\rt*rt<=n/\n < (rt+(if st=0 then 1 else 2*st))*(rt+(if st=0 then 1 else 2*st)):=fun r H3 s3 a b=>by
           refine ⟨i,by omega,2 ^ i / 2,r,?_,?_,s3,a,?_⟩
           · cases i with
             | zero=>exact .inl ⟨by decide,rfl⟩
             | succ i=>exact .inr ⟨i,by rw [Nat.pow_succ]; omega,by omega,rfl⟩
           · rw [← e2]
           · cases i with
             | zero=>exact b
             | succ i =>
               have p:0 < 2 ^ i:=Nat.pow_pos (by decide)
               have e:2 ^ (i+1) / 2=2 ^ i:=by rw [Nat.pow_succ]; omega
               rw [e,if_neg (by omega)]
               have e3:2*2 ^ i=2 ^ (i+1):=by rw [Nat.pow_succ]; omega
               rw [e3]
               exact b
         refine ⟨_,rfl,_,rfl,_,_,rfl,rfl,_,rfl,_,rfl,_,_,rfl,rfl,_,_,rfl,rfl,mulOk sb sb (by decide),_,rfl,_,_,rfl,rfl,_,rfl,?_⟩
         refine ite2 (fun g=>?_) (fun g=>?_)
         · have g:(rt+2 ^ i)*(rt+2 ^ i)<=n:=by
             have g:((rt:Int)+((2 ^ i:Nat):Int))*((rt:Int)+((2 ^ i:Nat):Int))<=(n:Int):=by simpa using g
             exact_mod_cast g
           refine ⟨_,rfl,_,rfl,_,_,rfl,rfl,?_⟩
           refine ⟨_,rfl,_,_,rfl,rfl,⟨by decide,PyProof.noPylong_small (by decide)⟩,?_⟩
           refine next (rt+2 ^ i) _ s2 g ?_
           have:rt+2 ^ i+2 ^ i=rt+2*2 ^ i:=by omega
           rw [this]
           exact h2
         · have g:n < (rt+2 ^ i)*(rt+2 ^ i):=by
             have g:¬ ((rt:Int)+((2 ^ i:Nat):Int))*((rt:Int)+((2 ^ i:Nat):Int))<=(n:Int):=by simpa using g
             have g:¬ (rt+2 ^ i)*(rt+2 ^ i)<=n:=fun q=>g (by exact_mod_cast q)
             omega
           exact ⟨_,rfl,_,_,rfl,rfl,⟨by decide,PyProof.noPylong_small (by decide)⟩,next rt _ s2 h1 g⟩
       · have d:st=0:=by
           have d:¬ (0:Int) < (st:Int):=by simpa using d
           omega
         subst d
         rw [if_pos rfl] at h2
         refine ⟨_,rfl,?_⟩
         rw [← Wm.root_unique h1 h2]
         exact k _ s2
end
end Gn
namespace Gn
open PySem PySem.Spec PyProof.Rows L2 Lw
open PySem.W (Codec WData)
theorem noPylong_ratio {x y:Nat} (hy:0 < y) (h:x < 2 ^ 4000*y):Builtin.divisionGoesByPylong (x:Int) (y:Int)=false:=by
 have key:(if ((x:Nat):Int) == 0 then 0 else ((x:Nat):Int).natAbs.log2 / 30+1)<=(if ((y:Nat):Int) == 0 then 0 else ((y:Nat):Int).natAbs.log2 / 30+1)+150:=by
  by_cases hx:(((x:Nat):Int) == 0)=true
  ·rw [if_pos hx]; exact Nat.zero_le _
  ·rw [if_neg hx,if_neg (by simp; omega),Int.natAbs_natCast,Int.natAbs_natCast]
   have hx0:x≠0:=by intro e; subst e; simp at hx
   have a:y < 2 ^ (y.log2+1):=Nat.lt_log2_self
   have b:x < 2 ^ (4000+(y.log2+1)):=by
    rw [Nat.pow_add]
    exact Nat.lt_trans h (Nat.mul_lt_mul_of_pos_left a (Nat.pow_pos (by decide)))
   have c:=(Nat.log2_lt hx0).mpr b
   omega
 show (_ && decide ((if ((x:Nat):Int) == 0 then 0 else ((x:Nat):Int).natAbs.log2 / 30+1) > (if ((y:Nat):Int) == 0 then 0 else ((y:Nat):Int).natAbs.log2 / 30+1)+150))=false
 rw [decide_eq_false (Nat.not_lt.mpr key),Bool.and_false]
section
variable {P:Program} {w:World} {K:PySem.W.Frag} {mg:Str->Option Value} {base:Heap}
def partsL (q:Nat) (bk:List Int) (ss:List Nat) (band:Nat):List Int:=ss.map (fun s=>bk.getD (s*4+band) 0) ++ List.replicate (Eh.root (q / 1048576)) (bk.getD (32+band) 0)
structure GainAsk (K:PySem.W.Frag) (H:Hp) (q:Nat) (pb ps:Addr) (bk:List Int) (ss:List Nat) (band:Nat):Prop where
 q40:q<=2 ^ 40
 hb:SqL K H pb (bk.map V.int)
 l36:bk.length=36
 b32:∀ x∈bk,0<=x/\x<=32768
 hs:SqL K H ps ((ss.map Int.ofNat).map V.int)
 s8:∀ s∈ss,s < 8
 l4:ss.length<=4
 b4:band < 4
def spParts (K:PySem.W.Frag):Sp:=fun vs H Q _=>∃ (q:Nat) (pb ps:Addr) (bk:List Int) (ss:List Nat) (band:Nat),vs=[.int (q:Int),.ref pb,.ref ps,.int (band:Int)]/\GainAsk K H q pb ps bk ss band/\∀ H' p,Same H H'->H' p=some (.lst ((partsL q bk ss band).map V.int))->Q (.ref p) H'
theorem steps_le {q:Nat} (h:q<=2 ^ 40):Eh.root (q / 1048576)<=1024:=by
 have:=Wm.root_lt (n:=q / 1048576) (r:=1025) (by omega)
 omega
theorem sc_list_parts:FnScope ["length2", "book", "stuffs", "band", "steps", "stuff"] ["length2", "book", "stuffs", "band"] (defScope s_list_parts):=⟨rfl,rfl,rfl,by decide +kernel,rfl,by decide +kernel,by decide +kernel⟩
theorem ok_list_parts (F:At K mg "list_parts" s_list_parts ["length2", "book", "stuffs", "band"]) (T:Txt mg) (D_find_root:Def P w K mg base "find_root" 1 ["number"] spRoot):Def P w K mg base "list_parts" 2 ["length2", "book", "stuffs", "band"] (spParts K):=by
 refine F.ok sc_list_parts (fun vs H Q E h=>?_) (fun f cdv A outer s H vs Q E hr h=>?_)
 ·obtain ⟨_,_,_,_,_,_,rfl,_⟩:=h
  rfl
 · obtain ⟨q, pb, ps, bk, ss, band, rfl, G, k⟩ := h
   have nd:=sc_list_parts.nd
   have q40:=G.q40
   have b4:=G.b4
   have l36:=G.l36
   refine ⟨_,(pss_cons (ps_set (i:=4) nd rfl (Or.inl rfl) (pe_callD D_find_root hr (pa_cons (pe_op op_fdivB (pv 0) (pe_op op_mulB (pe_gE (by rfl) T.c_AIR_STEP) (pe_gE (by rfl) T.c_AIR_STEP))) pa_nil)))
     (pss_one (ps_ret (pe_op op_cat (pe_lc rfl nd (pi_list (pv 2)) (blkOk_by (own:=[("stuff",5)]) (by show blkC ["length2", "book", "stuffs", "band", "steps", "stuff"] (defScope s_list_parts) _ _=true; decide +kernel)) (fun _ _ _ _ _=>(pg_name (i:=5) nd rfl (Or.inl rfl))) (fun _ _ _ _ _=>pts_nil) (fun _ _ _ _ _=>(pe_ix (show IxR _ (rIxL K) from ix_list) (pv 1) (pe_op op_add (pe_op op_mulB (pv 5) (pe_gE (by rfl) T.c_BANDS)) (pv 3)) (fun _ _=>rfl)))) (pe_op op_rep (pe_lst (pa_cons (pe_ix ix_list (pv 1) (pe_op op_add (pe_gE (by rfl) T.c_AIR_PLACE) (pv 3)) (fun _ _=>rfl)) pa_nil)) (pv 4)))))),?_⟩
   refine ⟨_,rfl,_,_,rfl,rfl,mulOk (m:=11) (n:=11) (by decide) (by decide) (by decide),_,_,rfl,rfl,⟨by decide,PyProof.noPylong_small (by decide)⟩,q / 1048576,rfl,?_,fun H1 s1=>?_⟩
   · exact Nat.lt_of_le_of_lt (Nat.div_le_self _ _) (Nat.lt_of_le_of_lt q40 (by decide))
   have hs:=s1.seq G.hs
   have hb:=s1.seq G.hb
   refine ⟨_,rfl,ps,rfl,⟨_,hs⟩,fun D hD=>lc_mapL (K:=K) (a:=ps) (xs:=(ss.map Int.ofNat).map V.int) (ys:=(ss.map fun s=>bk.getD (s*4+band) 0).map V.int) hD (by simp) (by simp; exact Nat.le_trans G.l4 (by decide)) hs ?_ ?_⟩
   · intro i x y H2 R N hx hy s2 hR
     obtain ⟨z,hz,rfl⟩:=int_at hx
     rw [List.getElem?_map] at hz
     cases e:ss[i]? with
     | none=>rw [e] at hz; cases hz
     | some s' =>
       rw [e] at hz
       cases hz
       rw [List.map_map,List.getElem?_map,e] at hy
       cases hy
       have s8:=G.s8 s' (List.mem_of_getElem? e)
       refine ⟨rfl,_,rfl,_,rfl,_,_,rfl,rfl,mulOk (m:=4) (n:=4) (by simp; omega) (by decide) (by decide),_,rfl,_,_,rfl,rfl,pb,_,_,_,rfl,rfl,s2.seq hb,at_int (i:=s'*4+band) ?_ (by omega),hR _ (Same.refl _)⟩
       simp
   · intro H2 s2 hD2
     refine ⟨_,rfl,_,rfl,_,_,rfl,rfl,pb,_,_,_,rfl,rfl,s2.seq hb,at_int (i:=32+band) (by omega) (by omega),(by show 1<=sizeLine; decide),fun l hl=>?_⟩
     have st:=steps_le q40
     refine ⟨_,rfl,l,_,_,rfl,rfl,upd_same,?_,?_,?_,fun l2 hl2=>?_⟩
     · omega
     · omega
     · show 1*_<=sizeLine
       rw [Int.toNat_natCast]
       exact Nat.le_trans (by omega) (show 1024<=sizeLine by decide)
     · refine ⟨D,l2,_,_,rfl,rfl,(same_new hl2) _ _ ((same_new hl) _ _ hD2),upd_same,?_,fun p hp=>?_⟩
       · rw [Int.toNat_natCast,len_rep]
         simp
         have:=G.l4
         exact Nat.le_trans (show _<=2000 by omega) (show 2000<=sizeLine by decide)
       · refine k _ p (s1.trans (s2.trans ((same_new hl).trans ((same_new hl2).trans (same_new hp))))) ?_
         have e:(partsL q bk ss band).map V.int=(ss.map fun s=>bk.getD (s*4+band) 0).map V.int ++ (List.replicate ((Eh.root (q / 1048576):Nat):Int).toNat [V.int (bk.getD (32+band) 0)]).flatten:=by
           unfold partsL
           rw [List.map_append,Int.toNat_natCast,List.map_replicate]
           congr 1
           induction Eh.root (q / 1048576) with
           | zero=>rfl
           | succ n ih=>rw [List.replicate_succ,List.replicate_succ,List.flatten_cons,ih]; rfl
         rw [e]
         exact upd_same
end
end Gn
set_option exponentiation.threshold 40000
namespace Gn
open PySem PySem.Spec PyProof.Rows L2 Lw
open PySem.W (Codec WData)
theorem ratio66 {a b:Nat} (hb:0 < b) (h:a<=2 ^ 66*b):Builtin.divisionGoesByPylong (a:Int) (b:Int)=false:=by
 have p:(2:Nat) ^ 66 < 2 ^ 4000:=Nat.pow_lt_pow_right (by omega) (by omega)
 refine noPylong_ratio hb (Nat.lt_of_le_of_lt h ?_)
 generalize (2:Nat) ^ 66=x at p
 generalize (2:Nat) ^ 4000=y at p
 exact Nat.mul_lt_mul_of_pos_right p hb
theorem div_le_of {a b c:Nat} (h:a<=c*b) (hb:0 < b):a / b<=c:=by
 rw [Nat.div_le_iff_le_mul_add_pred hb,Nat.mul_comm b c]
 omega
def prodN (l:List Nat):Nat:=l.foldr (fun (x y:Nat)=>x*y) 1
theorem prod_snoc (x:Nat):∀ l:List Nat,prodN (l ++ [x])=prodN l*x
 | []=>by simp [prodN]
 | y :: l=>by
  show y*prodN (l ++ [x])=y*prodN l*x
  rw [prod_snoc x l,Nat.mul_assoc]
theorem prod_le:∀ {l:List Nat},(∀ x∈l,x<=32768)->prodN l<=32768 ^ l.length
 | [],_=>Nat.le_refl _
 | y :: l,h=>by
  show y*prodN l<=32768 ^ (l.length+1)
  rw [Nat.pow_succ,Nat.mul_comm (32768 ^ l.length)]
  exact Nat.mul_le_mul (h y (List.mem_cons_self ..)) (prod_le fun x hx=>h x (List.mem_cons_of_mem _ hx))
def partsN (q:Nat) (bk:List Int) (ss:List Nat) (band:Nat):List Nat:=(partsL q bk ss band).map Int.toNat
def gainM (q:Nat) (bk:List Int) (ss:List Nat) (band:Nat):Nat:=Eh.nearestOverRoot (2 ^ 32*prodN (partsN q bk ss band)) (32768 ^ (partsN q bk ss band).length) (max q 1)
theorem parts_ok {K:PySem.W.Frag} {H:Hp} {q:Nat} {pb ps:Addr} {bk:List Int} {ss:List Nat} {band:Nat} (G:GainAsk K H q pb ps bk ss band):∀ x∈partsL q bk ss band,0<=x/\x<=32768:=by
 have a:∀ i,0<=bk.getD i 0/\bk.getD i 0<=32768:=fun i=>by
  rw [List.getD_eq_getElem?_getD]
  cases e:bk[i]? with
  | none=>exact ⟨by decide,by decide⟩
  | some c=>exact G.b32 c (List.mem_of_getElem? e)
 intro x hx
 unfold partsL at hx
 rcases List.mem_append.mp hx with h | h
 ·obtain ⟨s,_,rfl⟩:=List.mem_map.mp h
  exact a _
 ·rw [List.eq_of_mem_replicate h]
  exact a _
theorem parts_len {K:PySem.W.Frag} {H:Hp} {q:Nat} {pb ps:Addr} {bk:List Int} {ss:List Nat} {band:Nat} (G:GainAsk K H q pb ps bk ss band):(partsN q bk ss band).length<=1028:=by
 unfold partsN partsL
 have:=steps_le G.q40
 have:=G.l4
 simp
 omega
theorem pow15 {n:Nat} (h:n<=1028):32768 ^ n<=2 ^ 15420:=by
 have:(32768:Nat)=2 ^ 15:=by decide
 rw [this,← Nat.pow_mul]
 exact Nat.pow_le_pow_right (by decide) (by omega)
theorem back_int {K:PySem.W.Frag} {H:Hp} {q:Nat} {pb ps:Addr} {bk:List Int} {ss:List Nat} {band:Nat} (G:GainAsk K H q pb ps bk ss band):(partsL q bk ss band).map V.int=(partsN q bk ss band).map fun n:Nat=>V.int (n:Int):=by
 unfold partsN
 rw [List.map_map]
 refine List.map_congr_left fun x hx=>?_
 have:=(parts_ok G x hx).1
 show V.int x=V.int (x.toNat:Int)
 rw [Int.toNat_of_nonneg this]
theorem nat_at {ns:List Nat} {i:Nat} {v:V} (h:(ns.map fun n:Nat=>V.int (n:Int))[i]? = some v):∃ z,ns[i]? = some z/\v=V.int (z:Int):=by
 rw [List.getElem?_map] at h
 cases e:ns[i]? with
 | none=>rw [e] at h; cases h
 | some z=>rw [e] at h; exact ⟨z,rfl,(Option.some.inj h).symm⟩
theorem nbits {n m:Nat} (h:n < 2 ^ m):((n:Nat):Int).natAbs < 2 ^ m:=by
 rw [Int.natAbs_natCast]
 exact h
section
variable {P:Program} {w:World} {K:PySem.W.Frag} {mg:Str->Option Value} {base:Heap}
def spGain (K:PySem.W.Frag):Sp:=fun vs H Q _=>∃ (q:Nat) (pb ps:Addr) (bk:List Int) (ss:List Nat) (band:Nat),vs=[.int (q:Int),.ref pb,.ref ps,.int (band:Int)]/\GainAsk K H q pb ps bk ss band/\∀ H',Same H H'->Q (.int (gainM q bk ss band:Nat)) H'
theorem sc_find_gain:FnScope ["length2", "book", "stuffs", "band", "left", "whole", "part", "doubled"] ["length2", "book", "stuffs", "band"] (defScope s_find_gain):=⟨rfl,rfl,rfl,by decide +kernel,rfl,by decide +kernel,by decide +kernel⟩
theorem ok_find_gain (F:At K mg "find_gain" s_find_gain ["length2", "book", "stuffs", "band"]) (T:Txt mg) (D_list_parts:Def P w K mg base "list_parts" 2 ["length2", "book", "stuffs", "band"] (spParts K)) (D_find_root:Def P w K mg base "find_root" 1 ["number"] spRoot):Def P w K mg base "find_gain" 3 ["length2", "book", "stuffs", "band"] (spGain K):=by
 refine F.ok sc_find_gain (fun vs H Q E h=>?_) (fun f cdv A outer s H vs Q E hr h=>?_)
 ·obtain ⟨_,_,_,_,_,_,rfl,_⟩:=h
  rfl
 ·obtain ⟨q,pb,ps,bk,ss,band,rfl,G,k⟩:=h
  have nd:=sc_find_gain.nd
  have pl:=parts_len G
  have pk:∀ x∈partsN q bk ss band,x<=32768:=fun x hx=>by
   obtain ⟨y,hy,rfl⟩:=List.mem_map.mp hx
   have:=(parts_ok G y hy).2
   omega
  refine ⟨_,(pss_cons (ps_set (i:=4) nd rfl (Or.inl rfl) (pe_gE (by rfl) T.c_GREATEST_GAIN))
   (pss_cons (ps_set (i:=5) nd rfl (Or.inl rfl) pe_int)
   (pss_cons (ps_for PassesOwn.never rfl (pi_list (pe_callD D_list_parts hr (pa_cons (pv 0) (pa_cons (pv 1) (pa_cons (pv 2) (pa_cons (pv 3) pa_nil)))))) (pg_name (i:=6) nd rfl (Or.inl rfl)) (pss_cons (ps_set (i:=4) nd rfl (Or.inl rfl) (pe_op op_mulB (pv 4) (pv 6)))
   (pss_one (ps_set (i:=5) nd rfl (Or.inl rfl) (pe_op op_mulB (pv 5) (pe_gE (by rfl) T.c_WHOLE_PART))))))
   (pss_cons (ps_set (i:=7) nd rfl (Or.inl rfl) (pe_callD D_find_root hr (pa_cons (pe_op op_fdivB (pe_op op_mulB (pe_op op_mulB pe_int (pv 4)) (pv 4)) (pe_op op_mulB (pe_op op_mulB (pe_callB (call_max2 rfl) (by rfl) T.b_max bt_max (pa_cons (pv 0) (pa_cons pe_int pa_nil))) (pv 5)) (pv 5))) pa_nil)))
   (pss_one (ps_ret (pe_op op_fdivB (pe_op op_add (pv 7) pe_int) pe_int))))))),?_⟩
  refine ⟨_,rfl,_,rfl,_,rfl,_,rfl,q,pb,ps,bk,ss,band,rfl,G,fun H1 p s1 hp=>?_⟩
  rw [back_int G] at hp
  unfold gainM at k
  generalize partsN q bk ss band=ns at *
  refine ⟨p,rfl,⟨_,SqL.of hp⟩,?_⟩
  refine for_list (K:=K) (a:=p) (xs:=ns.map fun n:Nat=>V.int (n:Int)) (fun m σ H'=>∃ v:Option V,σ=[some (.int (q:Int)),some (.ref pb),some (.ref ps),some (.int (band:Int)),some (.int ((2 ^ 32*prodN (ns.take m):Nat):Int)),some (.int ((32768 ^ m:Nat):Int)),v,none]/\Same H1 H') ⟨none,rfl,Same.refl _⟩ (fun i σ H' _ ⟨_,_,s'⟩=>SqL.of (s' _ _ hp)) ?_ ?_
  ·rintro m x σ H2 hx ⟨v,rfl,s2⟩
   obtain ⟨z,hz,rfl⟩:=nat_at hx
   have hm:m < ns.length:=(List.getElem?_eq_some_iff.mp hz).1
   have zb:=pk z (List.mem_of_getElem? hz)
   have pb1:prodN (ns.take m)<=2 ^ 15420:=Nat.le_trans (prod_le fun x hx=>pk x (List.mem_of_mem_take hx)) (pow15 (by rw [List.length_take]; omega))
   have pb2:32768 ^ m<=2 ^ 15420:=pow15 (by omega)
   have lb:2 ^ 32*prodN (ns.take m) < 2 ^ 15453:=Nat.lt_of_le_of_lt (Nat.mul_le_mul_left _ pb1) (by decide +kernel)
   have wb:32768 ^ m < 2 ^ 15421:=Nat.lt_of_le_of_lt pb2 (by decide +kernel)
   refine ⟨_,rfl,_,rfl,_,_,rfl,rfl,mulOk (nbits lb) (nbits (show z < 2 ^ 16 by omega)) (by decide),?_⟩
   refine ⟨_,rfl,_,_,rfl,rfl,mulOk (nbits wb) (show (32768:Int).natAbs < 2 ^ 16 by decide) (by decide),?_⟩
   refine ⟨some (.int (z:Int)),?_,s2⟩
   have e1:((2 ^ 32*prodN (ns.take m):Nat):Int)*(z:Int)=((2 ^ 32*prodN (ns.take (m+1)):Nat):Int):=by
    rw [← take_snoc hz,prod_snoc,← Nat.mul_assoc,Int.natCast_mul]
    rfl
   have e2:((32768 ^ m:Nat):Int)*32768=((32768 ^ (m+1):Nat):Int):=by
    rw [Nat.pow_succ,Int.natCast_mul]
    rfl
   rw [← e1,← e2]
   rfl
  ·rintro σ H2 ⟨v,rfl,s2⟩
   rw [List.length_map,List.take_length]
   have pb1:prodN ns<=32768 ^ ns.length:=prod_le pk
   have pb2:32768 ^ ns.length<=2 ^ 15420:=pow15 pl
   have wp:0 < 32768 ^ ns.length:=Nat.pow_pos (by decide)
   have k2:∀ H',Same H H'->Q (V.int (((Eh.root (4*(2 ^ 32*prodN ns)*(2 ^ 32*prodN ns) / (max q 1*32768 ^ ns.length*32768 ^ ns.length))+1) / 2:Nat):Int)) H':=fun H' s'=>by
    have:=k H' s'
    unfold Eh.nearestOverRoot at this
    have cm:32768 ^ ns.length*32768 ^ ns.length*max q 1=max q 1*32768 ^ ns.length*32768 ^ ns.length:=by rw [Nat.mul_comm,Nat.mul_assoc]
    rw [cm] at this
    exact this
   clear k
   generalize 32768 ^ ns.length=W at *
   generalize prodN ns=Pn at *
   have lb:2 ^ 32*Pn < 2 ^ 15453:=Nat.lt_of_le_of_lt (Nat.mul_le_mul_left _ (Nat.le_trans pb1 pb2)) (by decide +kernel)
   have wb:W < 2 ^ 15421:=Nat.lt_of_le_of_lt pb2 (by decide +kernel)
   have q40:=G.q40
   have em:(if (1:Int) > (q:Int) then (1:Int) else (q:Int))=((max q 1:Nat):Int):=by
    split <;> omega
   have mb:max q 1 < 2 ^ 41:=by omega
   have mp:0 < max q 1:=by omega
   generalize max q 1=mx at *
   have nle:2 ^ 32*Pn<=2 ^ 32*W:=Nat.mul_le_mul_left _ pb1
   generalize 2 ^ 32*Pn=L at *
   have c4:((4:Int)*(L:Int)).natAbs < 2 ^ 15456:=by
    have:=mul_bd (show (4:Int).natAbs < 2 ^ 3 by decide) (nbits lb)
    exact this
   have cw:(((mx:Nat):Int)*(W:Int)).natAbs < 2 ^ 15462:=mul_bd (nbits mb) (nbits wb)
   have top:(4:Int)*(L:Int)*(L:Int)=((4*L*L:Nat):Int):=by simp
   have bot:((mx:Nat):Int)*(W:Int)*(W:Int)=((mx*W*W:Nat):Int):=by simp
   have bp:0 < mx*W*W:=Nat.mul_pos (Nat.mul_pos mp wp) wp
   have up:4*L*L<=2 ^ 66*(mx*W*W):=by
    have a:4*L*L<=4*(2 ^ 32*W)*(2 ^ 32*W):=Nat.mul_le_mul (Nat.mul_le_mul_left _ nle) nle
    have b:4*(2 ^ 32*W)*(2 ^ 32*W)=2 ^ 66*(1*W*W):=by
     rw [Nat.one_mul]
     generalize W=w
     have:(2:Nat) ^ 66=4*2 ^ 32*2 ^ 32:=by decide
     rw [this]
     simp only [Nat.mul_assoc,Nat.mul_comm,Nat.mul_left_comm]
    have c:1*W*W<=mx*W*W:=Nat.mul_le_mul_right _ (Nat.mul_le_mul_right _ mp)
    exact Nat.le_trans a (b ▸ Nat.mul_le_mul_left _ c)
   have dv:Builtin.divisionGoesByPylong ((4*L*L:Nat):Int) ((mx*W*W:Nat):Int)=false:=ratio66 bp up
   have sm:4*L*L / (mx*W*W) < 2 ^ 200:=by
    have:4*L*L / (mx*W*W)<=2 ^ 66:=div_le_of up bp
    exact Nat.lt_of_le_of_lt this (by decide)
   refine ⟨_,rfl,_,_,rfl,rfl,mulOk (show (4:Int).natAbs < 2 ^ 3 by decide) (nbits lb) (by decide),_,rfl,_,_,rfl,rfl,mulOk c4 (nbits lb) (by decide),?_⟩
   refine ⟨_,rfl,_,_,rfl,_,rfl,_,_,rfl,rfl,?_,_,rfl,_,_,rfl,rfl,?_,_,_,rfl,rfl,?_,4*L*L / (mx*W*W),?_,sm,fun H3 s3=>?_⟩
   ·rw [em]
    exact mulOk (nbits mb) (nbits wb) (by decide)
   ·rw [em]
    exact mulOk cw (nbits wb) (by decide)
   ·rw [em,top,bot]
    exact ⟨by exact_mod_cast bp,dv⟩
   ·rw [em,top,bot]
    rfl
   ·refine ⟨_,rfl,_,_,rfl,rfl,_,_,rfl,rfl,⟨by decide,PyProof.noPylong_small (by decide)⟩,?_⟩
    exact k2 H3 (s1.trans (s2.trans s3))
end
end Gn
namespace Gn
open PySem PySem.Spec PyProof.Rows L2 Lw
open PySem.W (Codec WData)
section
variable {P:Program} {w:World} {K:PySem.W.Frag} {mg:Str->Option Value} {base:Heap}
def stuffM (ns:List Int) (w:Nat):Int:=ns.getD (if w < ns.length / 3 - 1 then 3*w+5 else 1+w - (ns.length / 3 - 1)) 0
def spStuff (K:PySem.W.Frag):Sp:=fun vs H Q _=>∃ (a:Addr) (ns:List Int) (w:Nat),vs=[.ref a,.int (w:Int)]/\SqL K H a (ns.map V.int)/\ns.length % 3=0/\12<=ns.length/\ns.length<=300/\w < ns.length / 3+1/\∀ H',Same H H'->Q (.int (stuffM ns w)) H'
theorem sc_find_stuff:FnScope ["room", "wall", "floor"] ["room", "wall"] (defScope s_find_stuff):=⟨rfl,rfl,rfl,by decide +kernel,rfl,by decide +kernel,by decide +kernel⟩
theorem ok_find_stuff (F:At K mg "find_stuff" s_find_stuff ["room", "wall"]) (T:Txt mg) (D_count_walls:Def P w K mg base "count_walls" 1 ["room"] (spWalls K)):Def P w K mg base "find_stuff" 2 ["room", "wall"] (spStuff K):=by
 refine F.ok sc_find_stuff (fun vs H Q E h=>?_) (fun f cdv A outer s H vs Q E hr h=>?_)
 ·obtain ⟨_,_,_,rfl,_⟩:=h
  rfl
 ·obtain ⟨a,ns,wl,rfl,hS,h3,hl,h300,hw,k⟩:=h
  have nd:=sc_find_stuff.nd
  refine ⟨_,(pss_cons (ps_set (i:=2) nd rfl (Or.inl rfl) (pe_op op_sub (pe_callD D_count_walls hr (pa_cons (pv 0) pa_nil)) pe_int))
   (pss_cons (ps_if (pt_cmpR op_lt (pv 1) (pv 2) (nomark _)) (pss_one (ps_ret (pe_ix ix_list (pv 0) (pe_op op_add (pe_op op_mulB pe_int (pv 1)) pe_int) (fun _ _=>rfl)))) pss_nil)
   (pss_one (ps_ret (pe_ix ix_list (pv 0) (pe_op op_sub (pe_op op_add pe_int (pv 1)) (pv 2)) (fun _ _=>rfl)))))),?_⟩
  refine ⟨_,rfl,a,_,rfl,hS,fun H1 s1=>⟨_,_,rfl,rfl,?_⟩⟩
  have hS:=s1.seq hS
  have e:((((ns.map V.int).length / 3+1:Nat):Int) - 2)=((ns.length / 3 - 1:Nat):Int):=by
   rw [List.length_map]
   omega
  rw [List.length_map] at *
  have k:=k H1 s1
  unfold stuffM at k
  refine ⟨_,rfl,_,rfl,_,_,rfl,rfl,_,rfl,?_⟩
  refine ite2 (fun c=>?_) (fun c=>?_)
  ·have c:wl < ns.length / 3 - 1:=by
    have c:(wl:Int) < ((ns.length / 3+1:Nat):Int) - 2:=by simpa using c
    omega
   rw [if_pos c] at k
   exact ⟨_,rfl,_,rfl,_,_,rfl,rfl,mulOk (m:=3) (n:=64) (by decide) (by omega) (by decide),_,_,rfl,rfl,a,_,_,_,rfl,rfl,hS,at_int (i:=3*wl+5) (by omega) (by omega),k⟩
  ·have c:¬ wl < ns.length / 3 - 1:=by
    have c:¬ (wl:Int) < ((ns.length / 3+1:Nat):Int) - 2:=by simpa using c
    omega
   rw [if_neg c] at k
   exact ⟨_,rfl,_,rfl,_,_,rfl,rfl,_,rfl,_,_,rfl,rfl,a,_,_,_,rfl,rfl,hS,at_int (i:=1+wl - (ns.length / 3 - 1)) (by omega) (by omega),k⟩
def RefIs (ns bk:List Int) (o:Option (List Int)):Prop :=
 (∃ r i:Nat,FaultIs ns (some (r,i))/\o=some [-5,(r:Int),(i:Int)])\/(FaultIs ns none/\((∃ m:Nat,bookFault bk=some m/\o=some [-6,(m:Int)])\/(bookFault bk=none/\o=none)))
def optL (H:Hp) (v:V):Option (List Int)->Prop
 | none=>v=.non
 | some l=>∃ p,v=.ref p/\H p=some (.lst (l.map V.int))
def spRefuse (K:PySem.W.Frag):Sp:=fun vs H Q _=>∃ (a b:Addr) (ns bk:List Int),vs=[.ref a,.ref b]/\SqL K H a (ns.map V.int)/\SqL K H b (bk.map V.int)/\ns.length<=300/\(∀ x∈ns,x.natAbs<=2 ^ 63)/\∀ o v H',RefIs ns bk o->optL H' v o->Same H H'->Q v H'
theorem sc_refuse_room_or_book:FnScope ["room", "book", "room_fault", "book_fault"] ["room", "book"] (defScope s_refuse_room_or_book):=⟨rfl,rfl,rfl,by decide +kernel,rfl,by decide +kernel,by decide +kernel⟩
theorem ok_refuse_room_or_book (F:At K mg "refuse_room_or_book" s_refuse_room_or_book ["room", "book"]) (T:Txt mg) (D_find_room_fault:Def P w K mg base "find_room_fault" 6 ["room"] (spRoomFault K)) (D_find_book_fault:Def P w K mg base "find_book_fault" 1 ["book"] (spFault K)):Def P w K mg base "refuse_room_or_book" 7 ["room", "book"] (spRefuse K):=by
 refine F.ok sc_refuse_room_or_book (fun vs H Q E h=>?_) (fun f cdv A outer s H vs Q E hr h=>?_)
 ·obtain ⟨_,_,_,_,rfl,_⟩:=h
  rfl
 ·obtain ⟨a,b,ns,bk,rfl,hS,hB,hl,hb,k⟩:=h
  have nd:=sc_refuse_room_or_book.nd
  refine ⟨_,(pss_cons (ps_set (i:=2) nd rfl (Or.inl rfl) (pe_callD D_find_room_fault hr (pa_cons (pv 0) pa_nil)))
   (pss_cons (ps_if (pt_cmpR op_notN (pv 2) pe_non (nomark _)) (pss_one (ps_ret (pe_lst (pa_cons (pe_gE (by rfl) T.c_NO_ROOM) (pa_cons (pe_ix ix_tup (pv 2) pe_int (fun _ _=>rfl)) (pa_cons (pe_ix ix_tup (pv 2) pe_int (fun _ _=>rfl)) pa_nil)))))) pss_nil)
   (pss_cons (ps_set (i:=3) nd rfl (Or.inl rfl) (pe_callD D_find_book_fault hr (pa_cons (pv 1) pa_nil)))
   (pss_cons (ps_if (pt_cmpR op_notN (pv 3) pe_non (nomark _)) (pss_one (ps_ret (pe_lst (pa_cons (pe_gE (by rfl) T.c_NO_BOOK) (pa_cons (pv 3) pa_nil))))) pss_nil)
   (pss_one (ps_ret pe_non)))))),?_⟩
  refine ⟨_,rfl,a,ns,rfl,hS,hl,hb,fun o v H1 ho hv s1=>?_⟩
  cases o with
  | some x =>
   obtain ⟨r,i⟩:=x
   obtain ⟨p,rfl,hp⟩:=hv
   refine ⟨_,rfl,rfl,_,rfl,?_⟩
   refine ⟨_,rfl,p,_,_,_,rfl,rfl,SqT.of hp,rfl,_,rfl,p,_,_,_,rfl,rfl,SqT.of hp,rfl,(by show 3<=sizeLine; decide),fun l hl=>?_⟩
   exact k _ _ _ (.inl ⟨r,i,ho,rfl⟩) ⟨l,rfl,upd_same⟩ (s1.trans (same_new hl))
  | none =>
   cases hv
   refine ⟨_,rfl,rfl,_,rfl,?_⟩
   refine ⟨_,rfl,b,bk,rfl,s1.seq hB,fun H2 s2=>?_⟩
   cases e:bookFault bk with
   | none =>
    refine ⟨_,rfl,rfl,_,rfl,?_⟩
    exact k _ _ _ (.inr ⟨ho,.inr ⟨e,rfl⟩⟩) rfl (s1.trans s2)
   | some m =>
    refine ⟨_,rfl,rfl,_,rfl,?_⟩
    refine ⟨_,rfl,(by show 2<=sizeLine; decide),fun l hl=>?_⟩
    exact k _ _ _ (.inr ⟨ho,.inl ⟨m,e,rfl⟩⟩) ⟨l,rfl,upd_same⟩ (s1.trans (s2.trans (same_new hl)))
end
theorem ref_none {ns bk:List Int} (h:RefIs ns bk none):FaultIs ns none/\bookFault bk=none:=by
 rcases h with ⟨r,i,_,e⟩ | ⟨f,⟨m,_,e⟩ | ⟨b,_⟩⟩
 ·cases e
 ·cases e
 ·exact ⟨f,b⟩
theorem fault_none {ns:List Int} (h:FaultIs ns none):lenOk ns/\headOk ns/\(∀ r i,3<=r->r<=6->i < (trisOf ns).length->¬ brk (trisOf ns) r i)/\¬ areaTo (trisOf ns) (trisOf ns).length < 0:=by
 rcases h with ⟨_,e⟩ | ⟨_,_,e⟩ | ⟨_,_,r,i,_,_,_,_,_,_,e⟩ | ⟨a,b,c,⟨_,e⟩ | ⟨d,_⟩⟩
 ·cases e
 ·cases e
 ·cases e
 ·cases e
 ·exact ⟨a,b,c,d⟩
theorem book_ok {bk:List Int} (h:bookFault bk=none):bk.length=36/\∀ x∈bk,x<=32768:=by
 unfold bookFault at h
 by_cases c:bk.length≠36
 ·rw [if_pos c] at h
  cases h
 ·rw [if_neg c,List.findIdx?_eq_none_iff] at h
  refine ⟨by omega,fun x hx=>?_⟩
  have:=h x hx
  simp at this
  exact this
theorem stuff_ok {ns:List Int} (h:FaultIs ns none) {w:Nat} (hw:w < ns.length / 3+1):0<=stuffM ns w/\stuffM ns w<=7:=by
 obtain ⟨⟨h3,hl,hl2⟩,⟨_,hf,hc⟩,hb,_⟩:=fault_none h
 unfold stuffM
 by_cases c:w < ns.length / 3 - 1
 ·rw [if_pos c]
  have q:=hb 3 w (by decide) (by decide) (by rw [tris_len]; exact c)
  unfold brk at q
  rw [if_pos rfl] at q
  have q:=Classical.byContradiction q
  have e:atC (trisOf ns) w=triOf ns w:=by
   unfold atC
   rw [tris_len,Nat.mod_eq_of_lt c,List.getD_eq_getElem?_getD]
   unfold trisOf
   rw [List.getElem?_map,List.getElem?_range c]
   rfl
  rw [e] at q
  exact q.2.2
 ·rw [if_neg c]
  have:1+w - (ns.length / 3 - 1)=1\/1+w - (ns.length / 3 - 1)=2:=by omega
  rcases this with e | e <;> rw [e]
  ·exact hf
  ·exact hc
section
variable {P:Program} {w:World} {K:PySem.W.Frag} {mg:Str->Option Value} {base:Heap}
def gainW (q:Nat) (ns bk ws:List Int) (b:Nat):Nat:=gainM q bk (ws.map fun x=>(stuffM ns x.toNat).toNat) b
def spGainBy (K:PySem.W.Frag):Sp:=fun vs H Q _=>∃ (q:Nat) (pr pb pw:Addr) (ns bk ws:List Int) (band:Nat),vs=[.int (q:Int),.ref pr,.ref pb,.ref pw,.int (band:Int)]/\SqL K H pr (ns.map V.int)/\SqL K H pb (bk.map V.int)/\SqL K H pw (ws.map V.int)/\ns.length<=300/\(∀ x∈bk,0<=x)/\FaultIs ns none/\bookFault bk=none/\ws.length<=4/\(∀ x∈ws,0<=x/\x.toNat < ns.length / 3+1)/\q<=2 ^ 40/\band < 4/\∀ H',Same H H'->Q (.int (gainW q ns bk ws band:Nat)) H'
theorem sc_find_gain_by_walls:FnScope ["length2", "room", "book", "walls", "band", "wall"] ["length2", "room", "book", "walls", "band"] (defScope s_find_gain_by_walls):=⟨rfl,rfl,rfl,by decide +kernel,rfl,by decide +kernel,by decide +kernel⟩
theorem ok_find_gain_by_walls (F:At K mg "find_gain_by_walls" s_find_gain_by_walls ["length2", "room", "book", "walls", "band"]) (T:Txt mg) (D_find_stuff:Def P w K mg base "find_stuff" 2 ["room", "wall"] (spStuff K)) (D_find_gain:Def P w K mg base "find_gain" 3 ["length2", "book", "stuffs", "band"] (spGain K)):Def P w K mg base "find_gain_by_walls" 4 ["length2", "room", "book", "walls", "band"] (spGainBy K):=by
 refine F.ok sc_find_gain_by_walls (fun vs H Q E h=>?_) (fun f cdv A outer s H vs Q E hr h=>?_)
 ·obtain ⟨_,_,_,_,_,_,_,_,rfl,_⟩:=h
  rfl
 ·obtain ⟨q,pr,pb,pw,ns,bk,ws,band,rfl,hS,hB,hW,hl,hbk,hf,hbf,hwl,hws,c,hband,k⟩:=h
  have nd:=sc_find_gain_by_walls.nd
  obtain ⟨l36,b32⟩:=book_ok hbf
  obtain ⟨⟨h3,hl1,hl2⟩,_⟩:=fault_none hf
  refine ⟨_,(pss_one (ps_ret (pe_callD D_find_gain hr (pa_cons (pv 0) (pa_cons (pv 2) (pa_cons (pe_lc rfl nd (pi_list (pv 3)) (blkOk_by (own:=[("wall",5)]) (by show blkC ["length2", "room", "book", "walls", "band", "wall"] (defScope s_find_gain_by_walls) _ _=true; decide +kernel)) (fun _ _ _ _ _=>(pg_name (i:=5) nd rfl (Or.inl rfl))) (fun _ _ _ _ _=>pts_nil) (fun _ _ _ _ _=>(pe_callD D_find_stuff hr (pa_cons (pv 1) (pa_cons (pv 5) pa_nil))))) (pa_cons (pv 4) pa_nil))))))),?_⟩
  refine ⟨_,rfl,_,rfl,_,rfl,pw,rfl,⟨_,hW⟩,fun D hD=>lc_mapL (K:=K) (a:=pw) (xs:=ws.map V.int) (ys:=(((ws.map fun x=>(stuffM ns x.toNat).toNat)).map Int.ofNat).map V.int) hD (by simp) (by simp; exact Nat.le_trans hwl (by decide)) hW ?_ ?_⟩
  ·intro i x y H3 R N hx hy s3 hR
   obtain ⟨z,hz,rfl⟩:=int_at hx
   rw [List.map_map,List.map_map,List.getElem?_map,hz] at hy
   cases hy
   have hm:=List.mem_of_getElem? hz
   obtain ⟨z0,zt⟩:=hws z hm
   refine ⟨rfl,_,rfl,_,rfl,pr,ns,z.toNat,?_,s3.seq hS,h3,by omega,hl,zt,fun H4 s4=>?_⟩
   ·rw [Int.toNat_of_nonneg z0]
    rfl
   ·have e:stuffM ns z.toNat=Int.ofNat (stuffM ns z.toNat).toNat:=(Int.toNat_of_nonneg (stuff_ok hf zt).1).symm
    have:=hR H4 s4
    rw [e]
    exact this
  ·intro H3 s3 hD3
   refine ⟨_,rfl,q,pb,D,bk,_,band,rfl,⟨c,s3.seq hB,l36,fun x hx=>⟨hbk x hx,b32 x hx⟩,SqL.of hD3,?_,?_,hband⟩,fun H6 s6=>k _ (s3.trans s6)⟩
   ·intro st hst
    obtain ⟨x,hx,rfl⟩:=List.mem_map.mp hst
    have:=stuff_ok hf (hws x hx).2
    omega
   ·rw [List.length_map]
    exact hwl
end
end Gn
namespace Gn
open Eh
def toC (c:Tri):Corner:=⟨c.1,c.2.1,stuffOf c.2.2⟩
theorem atC_tri {ns:List Int} (h:0 < ns.length / 3 - 1) (i:Nat):atC (trisOf ns) i=triOf ns (i % (ns.length / 3 - 1)):=by
 unfold atC
 rw [tris_len,List.getD_eq_getElem?_getD]
 unfold trisOf
 rw [List.getElem?_map,List.getElem?_range (Nat.mod_lt _ h)]
 rfl
theorem corner_eq {ns:List Int} (h:0 < ns.length / 3 - 1) (i:Nat):(Wm.theRoom ns).corner i=toC (atC (trisOf ns) i):=by
 rw [atC_tri h,← Wm.corner_wrap,Wm.theRoom_n,Wm.theRoom_corner ns _ (Nat.mod_lt _ h)]
 rfl
theorem stuff8 (z:Int):STUFFS<=stuffOf z↔¬ (0<=z/\z<=7):=by
 unfold stuffOf STUFFS
 by_cases c:z < 0
 ·rw [if_pos c]
  omega
 ·rw [if_neg c]
  omega
theorem dir_eq (C:List Tri) (i:Nat):dirM C i↔Wm.dirC (toC (atC C i)) (toC (atC C (i+1)))=true:=by
 unfold dirM Wm.dirC
 have e1:(toC (atC C (i+1))).x - (toC (atC C i)).x=runX C i:=rfl
 have e2:(toC (atC C (i+1))).y - (toC (atC C i)).y=runY C i:=rfl
 rw [e1,e2]
 generalize runX C i=x
 generalize runY C i=y
 simp only [Bool.and_eq_true,Bool.not_eq_true',Bool.and_eq_false_iff,beq_eq_false_iff_ne,Bool.or_eq_true,beq_iff_eq]
 by_cases c:x=0\/y=0
 ·rw [if_pos c]
  grind
 ·rw [if_neg c]
  grind
theorem straight_eq (C:List Tri) (i:Nat):straightM C i↔Wm.alongC (toC (atC C i)) (toC (atC C (i+1))) (toC (atC C (i+1))) (toC (atC C (i+2)))=true:=by
 unfold straightM Wm.alongC
 have e1:(toC (atC C (i+1))).x - (toC (atC C i)).x=runX C i:=rfl
 have e2:(toC (atC C (i+1))).y - (toC (atC C i)).y=runY C i:=rfl
 have e3:(toC (atC C (i+2))).x - (toC (atC C (i+1))).x=runX C (i+1):=rfl
 have e4:(toC (atC C (i+2))).y - (toC (atC C (i+1))).y=runY C (i+1):=rfl
 rw [e1,e2,e3,e4,beq_iff_eq]
 omega
def p3 (r:Room) (i:Nat):Bool:=decide (WIDE < (r.corner i).x) || (decide (WIDE < (r.corner i).y) || (decide ((r.corner i).x < 0) || (decide ((r.corner i).y < 0) || decide (STUFFS<=(r.corner i).stuff))))
def p4 (r:Room) (i:Nat):Bool:=!Wm.dirC (r.corner i) (r.corner (i+1))
def p5 (r:Room) (i:Nat):Bool:=Wm.alongC (r.corner i) (r.corner (i+1)) (r.corner (i+1)) (r.corner (i+1+1))
def p6 (r:Room) (i:Nat):Bool:=(List.range r.n).any fun (j:Nat)=>!neighbours r.n i j && Wm.meetC (r.corner i) (r.corner (i+1)) (r.corner j) (r.corner (j+1))
section
variable {ns:List Int} (hn:0 < ns.length / 3 - 1)
include hn
theorem b3 (i:Nat):brk (trisOf ns) 3 i↔p3 (Wm.theRoom ns) i=true:=by
 unfold brk p3
 rw [if_pos rfl,corner_eq hn]
 generalize atC (trisOf ns) i=c
 have:=stuff8 c.2.2
 unfold okTri toC WIDE
 simp only [Bool.or_eq_true,decide_eq_true_iff]
 omega
theorem b4 (i:Nat):brk (trisOf ns) 4 i↔p4 (Wm.theRoom ns) i=true:=by
 unfold brk p4
 rw [if_neg (by decide),if_pos rfl,corner_eq hn,corner_eq hn,dir_eq]
 cases Wm.dirC (toC (atC (trisOf ns) i)) (toC (atC (trisOf ns) (i+1))) <;> simp
theorem b5 (i:Nat):brk (trisOf ns) 5 i↔p5 (Wm.theRoom ns) i=true:=by
 unfold brk p5
 rw [if_neg (by decide),if_neg (by decide),if_pos rfl,corner_eq hn,corner_eq hn,corner_eq hn,straight_eq]
theorem b6 (hd:∀ i,Wm.dirC ((Wm.theRoom ns).corner i) ((Wm.theRoom ns).corner (i+1))=true) (i:Nat):brk (trisOf ns) 6 i↔∃ j,i+2<=j/\j < ns.length / 3 - 1/\(j+1) % (ns.length / 3 - 1)≠i/\Wm.meetC ((Wm.theRoom ns).corner i) ((Wm.theRoom ns).corner (i+1)) ((Wm.theRoom ns).corner j) ((Wm.theRoom ns).corner (j+1))=true:=by
 unfold brk laterM
 rw [if_neg (by decide),if_neg (by decide),if_neg (by decide),tris_len]
 constructor
 ·rintro ⟨j,a,b,c,m⟩
  refine ⟨j,a,b,c,(Wm.meetC_iff (hd i) (hd j)).mpr ?_⟩
  rw [corner_eq hn,corner_eq hn,corner_eq hn,corner_eq hn]
  exact m
 ·rintro ⟨j,a,b,c,m⟩
  refine ⟨j,a,b,c,?_⟩
  have m:=(Wm.meetC_iff (hd i) (hd j)).mp m
  rw [corner_eq hn,corner_eq hn,corner_eq hn,corner_eq hn] at m
  exact m
theorem first6 (hd:∀ i,Wm.dirC ((Wm.theRoom ns).corner i) ((Wm.theRoom ns).corner (i+1))=true) (i:Nat) (hi:i < ns.length / 3 - 1) (hp:p6 (Wm.theRoom ns) i=true):∃ i',i'<=i/\brk (trisOf ns) 6 i':=by
 unfold p6 at hp
 rw [Wm.theRoom_n,List.any_eq_true] at hp
 obtain ⟨j,hj,q⟩:=hp
 have hj:=List.mem_range.mp hj
 rw [Bool.and_eq_true] at q
 obtain ⟨nb,m⟩:=q
 have nb:neighbours (ns.length / 3 - 1) i j=false:=by simpa using nb
 unfold neighbours at nb
 simp only [Bool.or_eq_false_iff,beq_eq_false_iff_ne] at nb
 obtain ⟨n1,n2,n3⟩:=nb
 rcases Nat.lt_or_ge i j with c | c
 ·refine ⟨i,Nat.le_refl _,(b6 hn hd i).mpr ⟨j,?_,hj,n3,m⟩⟩
  rcases Nat.lt_or_ge j (i+2) with d | d
  ·have:j=i+1:=by omega
   subst this
   exact absurd (Nat.mod_eq_of_lt hj) n2
  ·exact d
 ·have c:j < i:=by omega
  refine ⟨j,by omega,(b6 hn hd j).mpr ⟨i,?_,hi,n2,?_⟩⟩
  ·rcases Nat.lt_or_ge i (j+2) with d | d
   ·have:i=j+1:=by omega
    subst this
    exact absurd (Nat.mod_eq_of_lt hi) n3
   ·exact d
  ·exact (Wm.meetC_iff (hd j) (hd i)).mpr (Wm.meetP_symm.mp ((Wm.meetC_iff (hd i) (hd j)).mp m))
theorem some6 (hd:∀ i,Wm.dirC ((Wm.theRoom ns).corner i) ((Wm.theRoom ns).corner (i+1))=true) (i:Nat) (hi:i < ns.length / 3 - 1) (h:brk (trisOf ns) 6 i):p6 (Wm.theRoom ns) i=true:=by
 obtain ⟨j,a,b,c,m⟩:=(b6 hn hd i).mp h
 unfold p6
 rw [Wm.theRoom_n,List.any_eq_true]
 refine ⟨j,List.mem_range.mpr b,?_⟩
 rw [m,Bool.and_true]
 unfold neighbours
 have e:(i+1) % (ns.length / 3 - 1)=i+1:=Nat.mod_eq_of_lt (by omega)
 rw [e]
 have e1:(i == j)=false:=beq_eq_false_iff_ne.mpr (by omega)
 have e2:(i+1 == j)=false:=beq_eq_false_iff_ne.mpr (by omega)
 have e3:((j+1) % (ns.length / 3 - 1) == i)=false:=beq_eq_false_iff_ne.mpr c
 rw [e1,e2,e3]
 rfl
theorem area_eq:(Wm.theRoom ns).area2=areaTo (trisOf ns) (ns.length / 3 - 1):=by
 unfold Room.area2
 rw [Wm.theRoom_n,Wm.foldr_sm]
 have:∀ m,Wm.sm (fun i=>((Wm.theRoom ns).corner i).x*((Wm.theRoom ns).corner (i+1)).y - ((Wm.theRoom ns).corner (i+1)).x*((Wm.theRoom ns).corner i).y) m=areaTo (trisOf ns) m:=by
  intro m
  induction m with
  | zero=>rfl
  | succ m ih =>
   show Wm.sm _ m+(((Wm.theRoom ns).corner m).x*((Wm.theRoom ns).corner (m+1)).y - ((Wm.theRoom ns).corner (m+1)).x*((Wm.theRoom ns).corner m).y)=areaTo (trisOf ns) m+_ - _
   rw [ih,corner_eq hn,corner_eq hn]
   show areaTo (trisOf ns) m+((atC (trisOf ns) m).1*(atC (trisOf ns) (m+1)).2.1 - (atC (trisOf ns) (m+1)).1*(atC (trisOf ns) m).2.1)=_
   omega
 exact this _
end
theorem corner_mod (r:Room) (i j:Nat):r.corner (i % r.n+j)=r.corner (i+j):=by
 rw [← Wm.corner_wrap r (i % r.n+j),← Wm.corner_wrap r (i+j),Nat.mod_add_mod]
theorem faultC_eq (r:Room):Wm.faultC r=if r.n < 3\/MOST < r.n then some ⟨1,0⟩ else if r.h < 1\/WIDE < r.h\/STUFFS<=r.floor_\/STUFFS<=r.ceiling then some ⟨2,0⟩
 else match (List.range r.n).find? (p3 r) with
 | some i=>some ⟨3,i⟩
 | none=>match (List.range r.n).find? (p4 r) with
  | some i=>some ⟨4,i⟩
  | none=>match (List.range r.n).find? (p5 r) with
   | some i=>some ⟨5,i⟩
   | none=>match (List.range r.n).find? (p6 r) with
    | some i=>some ⟨6,i⟩
    | none=>if r.area2<=0 then some ⟨7,0⟩ else none:=rfl
theorem fault_due {ns:List Int} {o:Option (Nat×Nat)} (h:FaultIs ns o):Wm.roomL ns=match o with
  | none=>.ok (Wm.theRoom ns)
  | some (r,i)=>.error ⟨r,i⟩:=by
 unfold Wm.roomL
 by_cases l:lenOk ns
 · have ⟨l3, l1, l2⟩ := l
   have hn:0 < ns.length / 3 - 1:=by omega
   rw [if_neg (by omega),faultC_eq,Wm.theRoom_n,if_neg (by unfold MOST; omega)]
   have hh:((Wm.theRoom ns).h < 1\/WIDE < (Wm.theRoom ns).h\/STUFFS<=(Wm.theRoom ns).floor_\/STUFFS<=(Wm.theRoom ns).ceiling)↔¬ headOk ns:=by
     have a:=stuff8 (ns.getD 1 0)
     have b:=stuff8 (ns.getD 2 0)
     show (ns.getD 0 0 < 1\/WIDE < ns.getD 0 0\/STUFFS<=stuffOf (ns.getD 1 0)\/STUFFS<=stuffOf (ns.getD 2 0))↔_
     rw [a,b]
     unfold headOk WIDE
     omega
   by_cases hd:headOk ns
   · rw [if_neg (fun q=>hh.mp q hd)]
     have tl:=tris_len ns
     rcases h with ⟨q,_⟩ | ⟨_,q,_⟩ | ⟨_,_,r,i,r3,r6,hi,hb,hbr,hbi,rfl⟩ | ⟨_,_,hb,har⟩
     · exact absurd l q
     · exact absurd hd q
     · rw [tl] at hi hbr
       have none3:3 < r->(List.range (ns.length / 3 - 1)).find? (p3 (Wm.theRoom ns))=none:=fun q=>Wm.find_nothing fun j hj=>Bool.eq_false_iff.mpr fun z=>hbr 3 j (by omega) q hj ((b3 hn j).mpr z)
       have none4:4 < r->(List.range (ns.length / 3 - 1)).find? (p4 (Wm.theRoom ns))=none:=fun q=>Wm.find_nothing fun j hj=>Bool.eq_false_iff.mpr fun z=>hbr 4 j (by omega) q hj ((b4 hn j).mpr z)
       have none5:5 < r->(List.range (ns.length / 3 - 1)).find? (p5 (Wm.theRoom ns))=none:=fun q=>Wm.find_nothing fun j hj=>Bool.eq_false_iff.mpr fun z=>hbr 5 j (by omega) q hj ((b5 hn j).mpr z)
       have dirs:4 < r->∀ i,Wm.dirC ((Wm.theRoom ns).corner i) ((Wm.theRoom ns).corner (i+1))=true:=fun q i=>by
         rw [← corner_mod _ i 1,← Wm.corner_wrap,Wm.theRoom_n]
         have:=mt (b4 hn (i % (ns.length / 3 - 1))).mpr (hbr 4 _ (by omega) q (Nat.mod_lt _ hn))
         unfold p4 at this
         simpa using this
       have:r=3\/r=4\/r=5\/r=6:=by omega
       rcases this with rfl | rfl | rfl | rfl
       · rw [Wm.find_range hi ((b3 hn i).mp hb) fun j hj=>Bool.eq_false_iff.mpr fun z=>hbi j hj ((b3 hn j).mpr z)]
       · rw [none3 (by omega),Wm.find_range hi ((b4 hn i).mp hb) fun j hj=>Bool.eq_false_iff.mpr fun z=>hbi j hj ((b4 hn j).mpr z)]
       · rw [none3 (by omega),none4 (by omega),Wm.find_range hi ((b5 hn i).mp hb) fun j hj=>Bool.eq_false_iff.mpr fun z=>hbi j hj ((b5 hn j).mpr z)]
       · have d:=dirs (by omega)
         rw [none3 (by omega),none4 (by omega),none5 (by omega),Wm.find_range hi (some6 hn d i hi hb) fun j hj=>Bool.eq_false_iff.mpr fun z=>?_]
         obtain ⟨i',h1,h2⟩:=first6 hn d j (by omega) z
         exact hbi i' (by omega) h2
     · rw [tl] at hb har
       have dirs:∀ i,Wm.dirC ((Wm.theRoom ns).corner i) ((Wm.theRoom ns).corner (i+1))=true:=fun i=>by
         rw [← corner_mod _ i 1,← Wm.corner_wrap,Wm.theRoom_n]
         have:=mt (b4 hn (i % (ns.length / 3 - 1))).mpr (hb 4 _ (by omega) (by omega) (Nat.mod_lt _ hn))
         unfold p4 at this
         simpa using this
       have bends:∀ i,Wm.alongC ((Wm.theRoom ns).corner i) ((Wm.theRoom ns).corner (i+1)) ((Wm.theRoom ns).corner (i+1)) ((Wm.theRoom ns).corner (i+2))=false:=fun i=>by
         rw [← corner_mod _ i 1,← corner_mod _ i 2,← Wm.corner_wrap _ i,Wm.theRoom_n]
         exact Bool.eq_false_iff.mpr (mt (b5 hn (i % (ns.length / 3 - 1))).mpr (hb 5 _ (by omega) (by omega) (Nat.mod_lt _ hn)))
       have no6:∀ i,i < ns.length / 3 - 1->p6 (Wm.theRoom ns) i=false:=fun i hi=>Bool.eq_false_iff.mpr fun z=>by
         obtain ⟨i',h1,h2⟩:=first6 hn dirs i hi z
         exact hb 6 i' (by omega) (by omega) (by omega) h2
       have inr:∀ i,(0<=((Wm.theRoom ns).corner i).x/\((Wm.theRoom ns).corner i).x<=4095)/\(0<=((Wm.theRoom ns).corner i).y/\((Wm.theRoom ns).corner i).y<=4095):=fun i=>by
         rw [← Wm.corner_wrap,Wm.theRoom_n]
         have:=mt (b3 hn (i % (ns.length / 3 - 1))).mpr (hb 3 _ (by omega) (by omega) (Nat.mod_lt _ hn))
         unfold p3 WIDE at this
         simp only [Bool.or_eq_true,decide_eq_true_iff] at this
         omega
       have pol:Wm.Poly (Wm.theRoom ns).corner (ns.length / 3 - 1):={
         n3:=l1
         per:=fun i=>by
           rw [← Wm.corner_wrap _ (i+(ns.length / 3 - 1)),Wm.theRoom_n,Nat.add_mod_right]
           have:=Wm.corner_wrap (Wm.theRoom ns) i
           rw [Wm.theRoom_n] at this
           exact this
         dir:=dirs
         bend:=bends
         apart:=fun i j hi hj nb=>by
           have:=no6 i hi
           unfold p6 at this
           rw [Wm.theRoom_n] at this
           have:=List.any_eq_false.mp this j (List.mem_range.mpr hj)
           rw [nb] at this
           simpa using this }
       have ne:=pol.area_ne (fun i=>(inr i).1) (fun i=>(inr i).2)
       have ar:=area_eq hn
       have an:(Wm.theRoom ns).area2≠0:=by
         unfold Room.area2
         rw [Wm.theRoom_n,Wm.foldr_sm]
         exact ne
       rw [Wm.find_nothing fun j hj=>Bool.eq_false_iff.mpr fun z=>hb 3 j (by omega) (by omega) hj ((b3 hn j).mpr z),Wm.find_nothing fun j hj=>Bool.eq_false_iff.mpr fun z=>hb 4 j (by omega) (by omega) hj ((b4 hn j).mpr z),Wm.find_nothing fun j hj=>Bool.eq_false_iff.mpr fun z=>hb 5 j (by omega) (by omega) hj ((b5 hn j).mpr z),Wm.find_nothing no6]
       rw [← ar] at har
       rcases har with ⟨q,rfl⟩ | ⟨q,rfl⟩
       · simp only [if_pos (show (Wm.theRoom ns).area2<=0 by omega)]
       · simp only [if_neg (show ¬ (Wm.theRoom ns).area2<=0 by omega)]
   · rw [if_pos (hh.mpr hd)]
     rcases h with ⟨q,_⟩ | ⟨_,_,rfl⟩ | ⟨_,q,_⟩ | ⟨_,q,_⟩
     · exact absurd l q
     · rfl
     · exact absurd q hd
     · exact absurd q hd
 ·have e:o=some (1,0):=by
   rcases h with ⟨_,e⟩ | ⟨q,_⟩ | ⟨q,_⟩ | ⟨q,_⟩
   ·exact e
   ·exact absurd q l
   ·exact absurd q l
   ·exact absurd q l
  subst e
  by_cases c:ns.length < 3\/ns.length % 3≠0
  ·rw [if_pos c]
  ·rw [if_neg c,faultC_eq,Wm.theRoom_n,if_pos ?_]
   unfold lenOk at l
   unfold MOST
   omega
end Gn
namespace Gn
open Eh
theorem far_eq (q:Nat):root (q / 1048576)=farBy q:=by
 unfold farBy
 have ⟨a,b⟩:=Wm.root_spec q
 refine Wm.root_unique ?_ ?_
 ·rw [Nat.le_div_iff_mul_le (by decide)]
  have c:root q / 1024*1024<=root q:=Nat.div_mul_le_self _ _
  have d:=Nat.mul_le_mul c c
  have e:root q / 1024*(root q / 1024)*1048576=root q / 1024*1024*(root q / 1024*1024):=by
   generalize root q / 1024=x
   have:(1048576:Nat)=1024*1024:=rfl
   rw [this]
   simp only [Nat.mul_assoc,Nat.mul_left_comm]
  omega
 ·rw [Nat.div_lt_iff_lt_mul (by decide)]
  have c:root q+1<=(root q / 1024+1)*1024:=by omega
  have d:=Nat.mul_le_mul c c
  have e:(root q / 1024+1)*1024*((root q / 1024+1)*1024)=(root q / 1024+1)*(root q / 1024+1)*1048576:=by
   generalize root q / 1024+1=x
   have:(1048576:Nat)=1024*1024:=rfl
   rw [this]
   simp only [Nat.mul_assoc,Nat.mul_left_comm]
  omega
theorem nats_get (bk:List Int) (i:Nat):(BaNeutral.nats bk).getD i 0=(bk.getD i 0).toNat:=by
 unfold BaNeutral.nats
 rw [List.getD_eq_getElem?_getD,List.getD_eq_getElem?_getD,List.getElem?_map]
 cases bk[i]? <;> rfl
def bookC (bk:List Int):Book:=⟨(BaNeutral.nats bk).take 32,(BaNeutral.nats bk).drop 32⟩
theorem back_eq (bk:List Int) {s b:Nat} (hs:s < 8) (hb:b < 4):(bookC bk).backOf s b=(bk.getD (s*4+b) 0).toNat:=by
 unfold Book.backOf bookC BANDS
 rw [← nats_get,List.getD_eq_getElem?_getD,List.getD_eq_getElem?_getD,List.getElem?_take,if_pos (by omega),Nat.mul_comm]
theorem air_eq (bk:List Int) (b:Nat):(bookC bk).airOf b=(bk.getD (32+b) 0).toNat:=by
 unfold Book.airOf bookC
 rw [← nats_get,List.getD_eq_getElem?_getD,List.getD_eq_getElem?_getD,List.getElem?_drop]
theorem stuffOf_nat {z:Int} (h:0<=z):stuffOf z=z.toNat:=if_neg (by omega)
theorem stuff_eq {ns:List Int} (h:FaultIs ns none) {w:Nat} (hw:w < ns.length / 3+1):(Wm.theRoom ns).stuff w=(stuffM ns w).toNat:=by
 have sk:=stuff_ok h hw
 have ⟨⟨h3,hl,hl2⟩,_⟩:=fault_none h
 unfold Room.stuff
 rw [Wm.theRoom_n]
 unfold stuffM at *
 by_cases c:w < ns.length / 3 - 1
 ·rw [if_pos c,if_pos c,Wm.theRoom_corner _ _ c]
  rw [if_pos c] at sk
  exact stuffOf_nat sk.1
 ·rw [if_neg c,if_neg c]
  rw [if_neg c] at sk
  by_cases d:w=ns.length / 3 - 1
  ·have e:1+w - (ns.length / 3 - 1)=1:=by omega
   rw [if_pos d,e]
   rw [e] at sk
   exact stuffOf_nat sk.1
  ·have e:1+w - (ns.length / 3 - 1)=2:=by omega
   rw [if_neg d,e]
   rw [e] at sk
   exact stuffOf_nat sk.1
theorem gain_eq {ns bk:List Int} (h:FaultIs ns none) (q:Nat) {ws:List Nat} (hw:∀ x∈ws,x < ns.length / 3+1) {b:Nat} (hb:b < 4) :
  gainM q bk (ws.map fun x=>(stuffM ns x).toNat) b=gain (Wm.theRoom ns) (bookC bk) b q ws:=by
 have e:partsN q bk (ws.map fun x=>(stuffM ns x).toNat) b=ws.map (fun (w:Nat)=>(bookC bk).backOf ((Wm.theRoom ns).stuff w) b) ++ List.replicate (farBy q) ((bookC bk).airOf b):=by
  unfold partsN partsL
  rw [List.map_append,List.map_map,List.map_map,List.map_replicate,far_eq,air_eq]
  congr 1
  refine List.map_congr_left fun x hx=>?_
  have sk:=stuff_ok h (hw x hx)
  rw [stuff_eq h (hw x hx),back_eq bk (by omega) hb]
  rfl
 unfold gainM gain part
 rw [e]
 rfl
theorem book_due (bk:List Int):bookOf (BaNeutral.nats bk)=match bookFault bk with
  | some m=>.error m
  | none=>.ok (bookC bk):=by
 unfold bookOf bookFault
 have l:(BaNeutral.nats bk).length=bk.length:=List.length_map ..
 have f:((BaNeutral.nats bk).findIdx? fun (x:Nat)=>decide (WHOLE < x))=bk.findIdx? fun x=>decide (32768 < x):=by
  unfold BaNeutral.nats
  rw [List.findIdx?_map]
  congr 1
  funext x
  show decide (WHOLE < x.toNat)=decide (32768 < x)
  rw [decide_eq_decide]
  unfold WHOLE
  omega
 rw [l,f]
 by_cases c:bk.length≠36
 ·rw [if_pos c,if_pos (show bk.length≠BANDS*STUFFS+BANDS from c)]
 ·rw [if_neg c,if_neg (show ¬ bk.length≠BANDS*STUFFS+BANDS from c)]
  cases bk.findIdx? fun x=>decide (32768 < x) with
  | none=>rfl
  | some m=>rfl
end Gn
namespace Gn
open PySem PySem.Spec PyProof.Rows L2 Lw
open PySem.W (Codec WData)
def Keep (H H':Hp):Prop:=∀ a xs,H a=some (.tup xs)->H' a=some (.tup xs)
theorem Same.keep {H H':Hp} (s:Same H H'):Keep H H':=fun a _ e=>s a _ e
theorem keep_lst {H:Hp} {D:Addr} {xs ys:List V} (h:H D=some (.lst xs)):Keep H (upd H D (.lst ys)):=fun a zs e=>by
 have:a≠D:=fun q=>by
  rw [q,h] at e
  cases e
 rw [upd_ne this]
 exact e
def Tp {α:Type} (R:Hp->Addr->α->Prop):Prop:=∀ (H H':Hp) (p:Addr) (c:α),R H p c->Keep H H'->R H' p c
theorem Tp.tri:Tp TriAt:=fun _ _ _ _ h k=>k _ _ h
theorem Tp.ends:Tp (fun H p (e:Tri×Tri)=>EndsAt H p e.1 e.2):=fun _ _ _ _ h k=>by
 obtain ⟨p1,p2,h1,⟨r2,h2⟩,⟨r3,h3⟩⟩:=h
 exact ⟨p1,p2,k _ _ h1,⟨r2,k _ _ h2⟩,⟨r3,k _ _ h3⟩⟩
abbrev Qd:=Int×Int×Int×Int
def QdAt (H:Hp) (p:Addr) (c:Qd):Prop:=H p=some (.tup [.int c.1,.int c.2.1,.int c.2.2.1,.int c.2.2.2])
theorem Tp.qd:Tp QdAt:=fun _ _ _ _ h k=>k _ _ h
def PrAt (H:Hp) (p:Addr) (c:Int×Int):Prop:=H p=some (.tup [.int c.1,.int c.2])
theorem Tp.pr:Tp PrAt:=fun _ _ _ _ h k=>k _ _ h
theorem QdAt.same {H H':Hp} {p:Addr} {c:Qd} (h:QdAt H p c) (s:Same H H'):QdAt H' p c:=s _ _ h
theorem LsAt.tp {α:Type} {R:Hp->Addr->α->Prop} (tp:Tp R) {H H':Hp} {a:Addr} {C:List α} (h:LsAt R H a C) (s:Same H H'):LsAt R H' a C:=h.sameR s fun _ _ q=>tp _ _ _ _ q (Same.keep s)
theorem LsAt.item {α:Type} {R:Hp->Addr->α->Prop} {H:Hp} {a:Addr} {C:List α} (h:LsAt R H a C):∃ ps:List Addr,H a=some (.lst (ps.map V.ref))/\ps.length=C.length/\∀ (i:Nat) c,C[i]? = some c->∃ p,(ps.map V.ref)[i]? = some (.ref p)/\R H p c:=by
 obtain ⟨ps,h1,h2,h3⟩:=h
 refine ⟨ps,h1,h2,fun i c hc=>?_⟩
 have hi:i < ps.length:=by rw [h2]; exact (List.getElem?_eq_some_iff.mp hc).1
 exact ⟨ps[i],by rw [List.getElem?_map,List.getElem?_eq_getElem hi]; rfl,h3 i _ c (List.getElem?_eq_getElem hi) hc⟩
def Built {α:Type} (R:Hp->Addr->α->Prop) (H1:Hp) (D:Addr) (cs:List α) (i:Nat) (H:Hp):Prop :=
 Same H1 H/\∃ ps:List Addr,H D=some (.lst (ps.map V.ref))/\ps.length=i/\∀ (j:Nat) p c,ps[j]? = some p->cs[j]? = some c->R H p c
theorem built0 {α:Type} {R:Hp->Addr->α->Prop} {H1:Hp} {D:Addr} {cs:List α} (hn:H1 D=none):Built R H1 D cs 0 (upd H1 D (.lst [])) :=
 ⟨same_new hn,[],upd_same,rfl,fun j p c h=>by simp at h⟩
theorem Built.step {α:Type} {R:Hp->Addr->α->Prop} (tp:Tp R) {H1 H H4:Hp} {D p:Addr} {cs:List α} {i:Nat} {c:α} (hn:H1 D=none) (hc:cs[i]? = some c) (hz:cs.length<=sizeLine) (b:Built R H1 D cs i H) (s:Same H H4) (r:R H4 p c) :
  ∃ acc,H4 D=some (.lst acc)/\acc.length < sizeLine/\Built R H1 D cs (i+1) (upd H4 D (.lst (acc ++ [.ref p]))):=by
 obtain ⟨s1,ps,hD,hl,hp⟩:=b
 have hi:=(List.getElem?_eq_some_iff.mp hc).1
 have hD4:=s _ _ hD
 refine ⟨_,hD4,by rw [List.length_map]; omega,upd_keep hn (s1.trans s),ps ++ [p],?_,by simp [hl],?_⟩
 ·rw [List.map_append]
  exact upd_same
 ·intro j q c' hq hc'
  refine tp H4 _ _ _ ?_ (keep_lst hD4)
  by_cases l:j < ps.length
  ·rw [List.getElem?_append_left l] at hq
   exact tp _ _ _ _ (hp j q c' hq hc') (Same.keep s)
  ·have e:j=ps.length:=by
    have:=(List.getElem?_eq_some_iff.mp hq).1
    simp at this
    omega
   subst e
   simp at hq
   subst hq
   rw [hl,hc] at hc'
   cases hc'
   exact r
theorem Built.done {α:Type} {R:Hp->Addr->α->Prop} {H1 H:Hp} {D:Addr} {cs:List α} (b:Built R H1 D cs cs.length H):LsAt R H D cs:=by
 obtain ⟨_,ps,hD,hl,hp⟩:=b
 exact ⟨ps,hD,hl,hp⟩
theorem bl_of {b:Bool} {p:Prop} [Decidable p] (h:b=true↔p):b=decide p:=by
 by_cases c:p
 ·rw [decide_eq_true c,h.mpr c]
 ·rw [decide_eq_false c]
  cases b with
  | false=>rfl
  | true=>exact absurd (h.mp rfl) c
theorem any_map {n:Nat} {f:Nat->Bool}:((List.range n).map f).any id=true↔∃ i,i < n/\f i=true:=by
 rw [List.any_eq_true]
 constructor
 ·rintro ⟨x,hx,e⟩
  obtain ⟨i,hi,rfl⟩:=List.mem_map.mp hx
  exact ⟨i,List.mem_range.mp hi,e⟩
 ·rintro ⟨i,hi,e⟩
  exact ⟨_,List.mem_map.mpr ⟨i,List.mem_range.mpr hi,rfl⟩,e⟩
theorem all_map {n:Nat} {f:Nat->Bool}:((List.range n).map f).all id=true↔∀ i,i < n->f i=true:=by
 rw [List.all_eq_true]
 constructor
 ·intro h i hi
  exact h _ (List.mem_map.mpr ⟨i,List.mem_range.mpr hi,rfl⟩)
 ·intro h x hx
  obtain ⟨i,hi,rfl⟩:=List.mem_map.mp hx
  exact h i (List.mem_range.mp hi)
theorem bls_at {n i:Nat} {f:Nat->Bool} {y:V} (hi:i < n) (h:(((List.range n).map f).map V.bl)[i]? = some y):y=.bl (f i):=by
 rw [List.map_map,List.getElem?_map,List.getElem?_range hi] at h
 exact (Option.some.inj h).symm
section
variable {P:Program} {w:World} {K:PySem.W.Frag} {mg:Str->Option Value} {base:Heap}
def aheadM (a b p:Tri):Prop:=(a.2.1<=p.2.1/\p.2.1 < b.2.1/\0 < side a b p)\/(b.2.1<=p.2.1/\p.2.1 < a.2.1/\side a b p < 0)
def spAhead:Sp:=fun vs H Q _=>∃ (pl pp:Addr) (a b p:Tri),vs=[.ref pl,.ref pp]/\EndsAt H pl a b/\XyAt H pp p/\Bd a/\Bd b/\Bd p/\∀ v H',(v=true↔aheadM a b p)->Same H H'->Q (.bl v) H'
theorem sc_is_crossed_ahead:FnScope ["line", "point"] ["line", "point"] (defScope s_is_crossed_ahead):=⟨rfl,rfl,rfl,by decide +kernel,rfl,by decide +kernel,by decide +kernel⟩
theorem ok_is_crossed_ahead (F:At K mg "is_crossed_ahead" s_is_crossed_ahead ["line", "point"]) (T:Txt mg) (D_find_side:Def P w K mg base "find_side" 1 ["start", "end", "point"] spSide):Def P w K mg base "is_crossed_ahead" 2 ["line", "point"] spAhead:=by
 refine F.ok sc_is_crossed_ahead (fun vs H Q E h=>?_) (fun f cdv A outer s H vs Q E hr h=>?_)
 ·obtain ⟨_,_,_,_,_,rfl,_⟩:=h
  rfl
 ·obtain ⟨pl,pp,a,b,p,rfl,⟨q1,q2,el,⟨r1,h1⟩,⟨r2,h2⟩⟩,⟨r3,h3⟩,ba,bb,bp,k⟩:=h
  have nd:=sc_is_crossed_ahead.nd
  refine ⟨_,(pss_cons (ps_if (pt_chain op_le op_lt (pe_ix ix_tup (pe_ix ix_tup (pv 0) pe_int (fun _ _=>rfl)) pe_int (fun _ _=>rfl)) (pe_ix ix_tup (pv 1) pe_int (fun _ _=>rfl)) (pe_ix ix_tup (pe_ix ix_tup (pv 0) pe_int (fun _ _=>rfl)) pe_int (fun _ _=>rfl))) (pss_one (ps_ret (pe_cmpR op_gt (pe_callD D_find_side hr (pa_cons (pe_ix ix_tup (pv 0) pe_int (fun _ _=>rfl)) (pa_cons (pe_ix ix_tup (pv 0) pe_int (fun _ _=>rfl)) (pa_cons (pv 1) pa_nil)))) pe_int (nomark _)))) pss_nil)
   (pss_cons (ps_if (pt_chain op_le op_lt (pe_ix ix_tup (pe_ix ix_tup (pv 0) pe_int (fun _ _=>rfl)) pe_int (fun _ _=>rfl)) (pe_ix ix_tup (pv 1) pe_int (fun _ _=>rfl)) (pe_ix ix_tup (pe_ix ix_tup (pv 0) pe_int (fun _ _=>rfl)) pe_int (fun _ _=>rfl))) (pss_one (ps_ret (pe_cmpR op_lt (pe_callD D_find_side hr (pa_cons (pe_ix ix_tup (pv 0) pe_int (fun _ _=>rfl)) (pa_cons (pe_ix ix_tup (pv 0) pe_int (fun _ _=>rfl)) (pa_cons (pv 1) pa_nil)))) pe_int (nomark _)))) pss_nil)
   (pss_one (ps_ret pe_bl)))),?_⟩
  refine ⟨_,rfl,pl,_,_,_,rfl,rfl,SqT.of el,rfl,q1,_,_,_,rfl,rfl,SqT.of h1,at1,_,rfl,pp,_,_,_,rfl,rfl,SqT.of h3,at1,_,_,rfl,rfl,_,rfl,?_⟩
  refine ite2 (fun c=>⟨_,rfl,pl,_,_,_,rfl,rfl,SqT.of el,rfl,q2,_,_,_,rfl,rfl,SqT.of h2,at1,_,_,rfl,rfl,_,rfl,ite2 (fun d=>?up) (fun d=>?g1)⟩) (fun c=>⟨_,rfl,iteF ?g2⟩)
  case up =>
   have c:a.2.1<=p.2.1:=by simpa using c
   have d:p.2.1 < b.2.1:=by simpa using d
   refine ⟨_,rfl,pl,_,_,_,rfl,rfl,SqT.of el,rfl,_,rfl,pl,_,_,_,rfl,rfl,SqT.of el,rfl,_,rfl,q1,q2,pp,a,b,p,rfl,⟨_,h1⟩,⟨_,h2⟩,⟨_,h3⟩,ba,bb,bp,fun H1 s1=>⟨_,_,rfl,rfl,k _ _ ?_ s1⟩⟩
   unfold aheadM
   simp
   omega
  case' g1 => have n : ¬ (a.2.1 ≤ p.2.1 ∧ p.2.1 < b.2.1) := by
                have d:¬ p.2.1 < b.2.1:=by simpa using d
                omega
  case' g2 => have n : ¬ (a.2.1 ≤ p.2.1 ∧ p.2.1 < b.2.1) := by
                have c:¬ a.2.1<=p.2.1:=by simpa using c
                omega
  all_goals
   clear c
   refine ⟨_,rfl,pl,_,_,_,rfl,rfl,SqT.of el,rfl,q2,_,_,_,rfl,rfl,SqT.of h2,at1,_,rfl,pp,_,_,_,rfl,rfl,SqT.of h3,at1,_,_,rfl,rfl,_,rfl,?_⟩
   refine ite2 (fun c=>⟨_,rfl,pl,_,_,_,rfl,rfl,SqT.of el,rfl,q1,_,_,_,rfl,rfl,SqT.of h1,at1,_,_,rfl,rfl,_,rfl,ite2 (fun d=>?dn) (fun d=>?g3)⟩) (fun c=>⟨_,rfl,iteF ?g4⟩)
   case dn =>
    have c:b.2.1<=p.2.1:=by simpa using c
    have d:p.2.1 < a.2.1:=by simpa using d
    refine ⟨_,rfl,pl,_,_,_,rfl,rfl,SqT.of el,rfl,_,rfl,pl,_,_,_,rfl,rfl,SqT.of el,rfl,_,rfl,q1,q2,pp,a,b,p,rfl,⟨_,h1⟩,⟨_,h2⟩,⟨_,h3⟩,ba,bb,bp,fun H1 s1=>⟨_,_,rfl,rfl,k _ _ ?_ s1⟩⟩
    unfold aheadM
    simp
    omega
   case g3 =>
    have d:¬ p.2.1 < a.2.1:=by simpa using d
    exact k _ _ (no_iff (by unfold aheadM; omega)) (Same.refl H)
   case g4 =>
    have c:¬ b.2.1<=p.2.1:=by simpa using c
    exact k _ _ (no_iff (by unfold aheadM; omega)) (Same.refl H)
instance {a b p:Tri}:Decidable (aheadM a b p):=by unfold aheadM; infer_instance
def linesM (C:List Tri):List (Tri×Tri):=(List.range C.length).map fun i=>(atC C i,atC C (i+1))
theorem linesM_len (C:List Tri):(linesM C).length=C.length:=by simp [linesM]
theorem linesM_at {C:List Tri} {i:Nat} (h:i < C.length):(linesM C)[i]? = some (atC C i,atC C (i+1)):=by
 unfold linesM
 rw [List.getElem?_map,List.getElem?_range h]
 rfl
def withinM (C:List Tri) (p:Tri):Prop:=(∀ i,i < C.length->¬ meetM (atC C i) (atC C (i+1)) p p)/\((List.range C.length).filter fun i=>decide (aheadM (atC C i) (atC C (i+1)) p)).length % 2=1
def spWithin:Sp:=fun vs H Q _=>∃ (a pp:Addr) (C:List Tri) (p:Tri),vs=[.ref a,.ref pp]/\CsAt H a C/\C≠[]/\C.length < 1000/\(∀ c∈C,Bd c)/\XyAt H pp p/\Bd p/\∀ v H',(v=true↔withinM C p)->Same H H'->Q (.bl v) H'
theorem sc_is_within:FnScope ["corners", "point", "lines", "line"] ["corners", "point"] (defScope s_is_within):=⟨rfl,rfl,rfl,by decide +kernel,rfl,by decide +kernel,by decide +kernel⟩
theorem ok_is_within (F:At K mg "is_within" s_is_within ["corners", "point"]) (T:Txt mg) (D_find_ends:Def P w K mg base "find_ends" 1 ["corners", "line"] spEnds) (D_lines_meet:Def P w K mg base "lines_meet" 3 ["first", "second"] spMeet) (D_is_crossed_ahead:Def P w K mg base "is_crossed_ahead" 2 ["line", "point"] spAhead):Def P w K mg base "is_within" 4 ["corners", "point"] spWithin:=by
 classical
 refine F.ok sc_is_within (fun vs H Q E h=>?_) (fun f cdv A outer s H vs Q E hr h=>?_)
 ·obtain ⟨_,_,_,_,rfl,_⟩:=h
  rfl
 · obtain ⟨a, pp, C, p, rfl, hC, hne, hlen, hb, hp, bp, k⟩ := h
   have nd:=sc_is_within.nd
   obtain ⟨ps,h1,h2,_⟩:=hC.len
   refine ⟨_,(pss_cons (ps_setLc (i:=2) rfl nd rfl rfl (sw_true rfl rfl rfl rfl) (pi_range1 (by rfl) T.b_range (pa_cons (pe_callB call_len_seq (by rfl) T.b_len bt_len (pa_cons (pv 0) pa_nil)) pa_nil)) (blkOk_by (own:=[("line",3)]) (by show blkC ["corners", "point", "lines", "line"] (defScope s_is_within) _ _=true; decide +kernel)) (fun _ _ _ _ _=>(pg_name (i:=3) nd rfl (Or.inl rfl))) (fun _ _ _ _ _=>pts_nil) (fun _ _ _ _ _=>(pe_callD D_find_ends hr (pa_cons (pv 0) (pa_cons (pv 3) pa_nil)))))
     (pss_cons (ps_if (pt_val (pe_callB (cr_any rfl) (by rfl) T.b_any bt_any (pa_cons (pe_lc rfl nd (pi_list (pv 2)) (blkOk_by (own:=[("line",3)]) (by show blkC ["corners", "point", "lines", "line"] (defScope s_is_within) _ _=true; decide +kernel)) (fun _ _ _ _ _=>(pg_name (i:=3) nd rfl (Or.inl rfl))) (fun _ _ _ _ _=>pts_nil) (fun _ _ _ _ _=>(pe_callD D_lines_meet hr (pa_cons (pv 3) (pa_cons (pe_tup (pa_cons (pv 1) (pa_cons (pv 1) pa_nil))) pa_nil))))) pa_nil))) (pss_one (ps_ret pe_bl)) pss_nil)
     (pss_one (ps_ret (pe_cmpR op_eq (pe_op op_mod (pe_callB call_len_seq (by rfl) T.b_len bt_len (pa_cons (pe_lc rfl nd (pi_list (pv 2)) (blkOk_by (own:=[("line",3)]) (by show blkC ["corners", "point", "lines", "line"] (defScope s_is_within) _ _=true; decide +kernel)) (fun _ _ _ _ _=>(pg_name (i:=3) nd rfl (Or.inl rfl))) (fun _ _ _ _ _=>(pts_one (pt_val (pe_callD D_is_crossed_ahead hr (pa_cons (pv 3) (pa_cons (pv 1) pa_nil)))))) (fun _ _ _ _ _=>(pv 3))) pa_nil)) pe_int) pe_int (nomark _)))))),?_⟩
   refine ⟨_,rfl,a,_,rfl,.inl (SqL.of h1),_,rfl,(by omega),(by omega),fun D hD=>lc_range (lo:=0) (n:=(((ps.map V.ref).length:Nat):Int).toNat) (Built (fun H p (e:Tri×Tri)=>EndsAt H p e.1 e.2) H D (linesM C)) (built0 hD) ?_ ?_⟩
   · intro i H1 hi b
     have ei:(0:Int)+(i:Int)=(i:Int):=by omega
     rw [ei]
     have hi:i < C.length:=by omega
     exact ⟨rfl,_,rfl,_,rfl,a,C,i,rfl,hC.same b.1,hne,fun H2 q s2 hE=>Built.step Tp.ends hD (linesM_at hi) (by rw [linesM_len]; exact Nat.le_trans (Nat.le_of_lt hlen) (by decide)) b s2 hE⟩
   · intro H1 b
     have e:(((ps.map V.ref).length:Nat):Int).toNat=(linesM C).length:=by rw [linesM_len]; omega
     rw [e] at b
     have s1:=b.1
     have hL:=b.done
     obtain ⟨qs,g1,g2,g3⟩:=hL.item
     rw [linesM_len] at g2
     have hp1:=hp.same s1
     have sz:C.length<=sizeLine:=Nat.le_trans (Nat.le_of_lt hlen) (by decide)
     have ql:(qs.map V.ref).length=C.length:=by rw [List.length_map,g2]
     refine ⟨_,rfl,D,rfl,⟨_,SqL.of g1⟩,fun D2 hD2=>lc_mapL (K:=K) (a:=D) (xs:=qs.map V.ref) (ys:=((List.range C.length).map fun i=>decide (meetM (atC C i) (atC C (i+1)) p p)).map V.bl) hD2 (by simp [g2]) (by simpa using sz) (SqL.of g1) ?_ ?_⟩
     · intro i x y H3 R N hx hy s3 hR
       have hi:i < C.length:=by rw [← ql]; exact (List.getElem?_eq_some_iff.mp hx).1
       obtain ⟨q,e1,e2⟩:=g3 i _ (linesM_at hi)
       rw [e1] at hx
       cases hx
       have hy:=bls_at hi hy
       subst hy
       refine ⟨rfl,_,rfl,_,rfl,_,rfl,(by show 2<=sizeLine; decide),fun t ht=>?_⟩
       have st:=s3.trans (same_new (o:=.tup [.ref pp,.ref pp]) ht)
       refine ⟨q,t,_,_,p,p,rfl,e2.same st,⟨pp,pp,upd_same,hp1.same st,hp1.same st⟩,atC_bd hb _,atC_bd hb _,bp,bp,fun v H4 hv s4=>?_⟩
       rw [bl_of hv]
       exact hR _ ((same_new ht).trans s4)
     · intro H3 s3 hD3
       refine ⟨D2,_,rfl,SqL.of hD3,?_⟩
       have s13:=s1.trans s3
       refine ⟨_,rfl,ite2 (fun c=>?_) (fun c=>?_)⟩
       · rw [any_map] at c
         obtain ⟨i,hi,e⟩:=c
         exact k _ _ (no_iff fun z=>z.1 i hi (by simpa using e)) s13
       · rw [any_map] at c
         have none':∀ i,i < C.length->¬ meetM (atC C i) (atC C (i+1)) p p:=fun i hi z=>c ⟨i,hi,by simpa using z⟩
         have g13:=s3 _ _ g1
         refine ⟨_,rfl,D,rfl,⟨_,SqL.of g13⟩,fun D4 hD4=>lc_list (K:=K) (a:=D) (xs:=qs.map V.ref) (fun i H'=>Same H3 H'/\∃ acc,H' D4=some (.lst acc)/\acc.length<=i/\acc.length=((List.range i).filter fun i=>decide (aheadM (atC C i) (atC C (i+1)) p)).length) ⟨same_new hD4,[],upd_same,Nat.le_refl _,rfl⟩ (fun i H' _ q=>q.1.seq (SqL.of g13)) ?_ ?_⟩
         · rintro i x H5 hx ⟨s5,acc,hacc,hle,hlen5⟩
           have hi:i < C.length:=by rw [← ql]; exact (List.getElem?_eq_some_iff.mp hx).1
           obtain ⟨q,e1,e2⟩:=g3 i _ (linesM_at hi)
           rw [e1] at hx
           cases hx
           have s35:=s3.trans s5
           refine ⟨rfl,_,rfl,_,rfl,q,pp,_,_,p,rfl,e2.same s35,hp1.same s35,atC_bd hb _,atC_bd hb _,bp,fun v H6 hv s6=>⟨_,rfl,?_⟩⟩
           have lenS:((List.range (i+1)).filter fun i=>decide (aheadM (atC C i) (atC C (i+1)) p)).length=((List.range i).filter fun i=>decide (aheadM (atC C i) (atC C (i+1)) p)).length+(if v=true then 1 else 0):=by
             rw [List.range_succ,List.filter_append,List.length_append,bl_of hv]
             congr 1
             by_cases z:aheadM (atC C i) (atC C (i+1)) p
             · simp [z]
             · simp [z]
           cases v with
           | true =>
             rw [if_pos rfl] at lenS
             refine ⟨_,rfl,acc,s6 _ _ hacc,Nat.lt_of_le_of_lt hle (Nat.lt_of_lt_of_le hi sz),upd_keep hD4 (s5.trans s6),_,upd_same,?_,?_⟩
             · simp
               omega
             · rw [lenS]
               simp
               omega
           | false =>
             refine ⟨s5.trans s6,acc,s6 _ _ hacc,by omega,?_⟩
             rw [lenS,if_neg (by decide)]
             omega
         · rintro H5 ⟨s5,acc,hacc,hle,hlen5⟩
           refine ⟨D4,_,rfl,.inl (SqL.of hacc),_,_,rfl,rfl,(by show (0:Int) < 2; decide),rfl,k _ _ ?_ (s13.trans s5)⟩
           rw [ql] at hlen5
           unfold withinM
           rw [← hlen5]
           constructor
           · intro z
             have z:((acc.length:Int)) % 2=1:=by simpa using z
             exact ⟨none',by omega⟩
           · intro z
             have z:=z.2
             have:((acc.length:Int)) % 2=1:=by omega
             simpa using this
end
end Gn
namespace Gn
open PySem PySem.Spec PyProof.Rows L2 Lw
open PySem.W (Codec WData)
section
variable {P:Program} {w:World} {K:PySem.W.Frag} {mg:Str->Option Value} {base:Heap}
def insideM (ns:List Int) (p:Tri):Prop:=(0 < p.2.2/\p.2.2 < ns.getD 0 0)/\withinM (trisOf ns) p
def spInside (K:PySem.W.Frag):Sp:=fun vs H Q _=>∃ (a pp:Addr) (ns:List Int) (p:Tri),vs=[.ref a,.ref pp]/\SqL K H a (ns.map V.int)/\lenOk ns/\ns.length<=300/\(∀ x∈ns,x.natAbs<=2 ^ 63)/\TriAt H pp p/\Bd p/\∀ v H',(v=true↔insideM ns p)->Same H H'->Q (.bl v) H'
theorem tris_ne {ns:List Int} (h:lenOk ns):trisOf ns≠[]:=fun e=>by
 have:(trisOf ns).length=0:=by rw [e]; rfl
 rw [tris_len] at this
 have:=h.2.1
 omega
theorem tris_lt {ns:List Int} (h:ns.length<=300):(trisOf ns).length < 1000:=by rw [tris_len]; omega
theorem sc_is_inside:FnScope ["room", "point"] ["room", "point"] (defScope s_is_inside):=⟨rfl,rfl,rfl,by decide +kernel,rfl,by decide +kernel,by decide +kernel⟩
theorem ok_is_inside (F:At K mg "is_inside" s_is_inside ["room", "point"]) (T:Txt mg) (D_list_corners:Def P w K mg base "list_corners" 1 ["room"] (spCorners K)) (D_is_within:Def P w K mg base "is_within" 4 ["corners", "point"] spWithin):Def P w K mg base "is_inside" 5 ["room", "point"] (spInside K):=by
 refine F.ok sc_is_inside (fun vs H Q E h=>?_) (fun f cdv A outer s H vs Q E hr h=>?_)
 ·obtain ⟨_,_,_,_,rfl,_⟩:=h
  rfl
 ·obtain ⟨a,pp,ns,p,rfl,hS,lo,hl,hb,hp,bp,k⟩:=h
  have nd:=sc_is_inside.nd
  have l3:12<=ns.length:=by have:=lo.2.1; omega
  refine ⟨_,(pss_one (ps_ret (pe_and (pe_chain op_lt op_lt pe_int (pe_ix ix_tup (pv 1) pe_int (fun _ _=>rfl)) (pe_ix ix_list (pv 0) pe_int (fun _ _=>rfl))) (pe_one (pe_callD D_is_within hr (pa_cons (pe_callD D_list_corners hr (pa_cons (pv 0) pa_nil)) (pa_cons (pv 1) pa_nil))))))),?_⟩
  refine ⟨_,rfl,pp,_,_,_,rfl,rfl,SqT.of hp,rfl,_,_,rfl,rfl,_,rfl,?_⟩
  refine ite2 (fun c=>⟨_,rfl,a,_,_,_,rfl,rfl,hS,at_int (i:=0) rfl (by omega),_,_,rfl,rfl,_,rfl,ite2 (fun d=>?_) (fun d=>?_)⟩) (fun c=>⟨_,rfl,iteF ?_⟩)
  ·have c:0 < p.2.2:=by simpa using c
   have d:p.2.2 < ns.getD 0 0:=by simpa using d
   refine ⟨_,rfl,a,ns,rfl,hS,lo.1,(by omega),hl,fun H1 q s1 hC=>⟨_,rfl,q,pp,trisOf ns,p,rfl,hC.cs,tris_ne lo,tris_lt hl,tris_bd hb,(hp.same s1).xy,bp,fun v H2 hv s2=>k _ _ ?_ (s1.trans s2)⟩⟩
   unfold insideM
   rw [hv]
   exact ⟨fun z=>⟨⟨c,d⟩,z⟩,fun z=>z.2⟩
  ·exact k _ _ (no_iff fun z=>d (by simpa using z.1.2)) (Same.refl H)
  ·exact k _ _ (no_iff fun z=>c (by simpa using z.1.1)) (Same.refl H)
def planeA (C:List Tri) (i:Nat):Int:=-runY C i / max ((runX C i).natAbs:Int) ((runY C i).natAbs:Int)
def planeB (C:List Tri) (i:Nat):Int:=runX C i / max ((runX C i).natAbs:Int) ((runY C i).natAbs:Int)
def planeM (C:List Tri) (i:Nat):Qd:=(planeA C i,planeB C i,0,planeA C i*(atC C i).1+planeB C i*(atC C i).2.1)
def B12 (c:Tri):Prop:=(0<=c.1/\c.1<=4095)/\(0<=c.2.1/\c.2.1<=4095)
theorem quot_small {x L:Int} (h0:0 < L) (h1:-L<=x) (h2:x<=L):-1<=x / L/\x / L<=1:=by
 constructor
 ·exact (Int.le_ediv_iff_mul_le h0).mpr (by omega)
 ·exact Int.ediv_le_of_le_mul h0 (by omega)
theorem plane_small {C:List Tri} {i:Nat} (h:runX C i≠0\/runY C i≠0):(-1<=planeA C i/\planeA C i<=1)/\(-1<=planeB C i/\planeB C i<=1):=by
 unfold planeA planeB
 generalize runX C i=x at *
 generalize runY C i=y at *
 exact ⟨quot_small (by omega) (by omega) (by omega),quot_small (by omega) (by omega) (by omega)⟩
theorem small1 {z:Int} (h:-1<=z/\z<=1):z.natAbs < 2 ^ 2:=by omega
theorem small13 {z:Int} (h:0<=z/\z<=4095):z.natAbs < 2 ^ 13:=by omega
theorem step_bd {a b:Int} (h:0<=a/\a<=4095) (g:0<=b/\b<=4095):(b - a).natAbs<=4095:=by omega
theorem div_bd {x y:Int} (h:x≠0\/y≠0) (hx:x.natAbs<=4095) (hy:y.natAbs<=4095) (z:Int):CDivB z (max (x.natAbs:Int) (y.natAbs:Int)):=by
 have m0:0 < max (x.natAbs:Int) (y.natAbs:Int):=h.elim (fun q=>Int.lt_of_lt_of_le (Int.ofNat_lt.mpr (Int.natAbs_pos.mpr q)) (Int.le_max_left _ _)) (fun q=>Int.lt_of_lt_of_le (Int.ofNat_lt.mpr (Int.natAbs_pos.mpr q)) (Int.le_max_right _ _))
 have m1:max (x.natAbs:Int) (y.natAbs:Int)<=4095:=Int.max_le.mpr ⟨Int.ofNat_le.mpr hx,Int.ofNat_le.mpr hy⟩
 generalize max (x.natAbs:Int) (y.natAbs:Int)=m at *
 exact ⟨m0,PyProof.noPylong_small (by clear hx hy h; omega)⟩
theorem ix_list_at {α:Type} {R:Hp->Addr->α->Prop} {H:Hp} {a:Addr} {C:List α} {i:Nat} {c:α} (h:LsAt R H a C) (hc:C[i]? = some c):∃ xs p,H a=some (.lst xs)/\atI xs (i:Int)=some (.ref p)/\R H p c:=by
 obtain ⟨ps,h1,_,h3⟩:=h.item
 obtain ⟨p,e1,e2⟩:=h3 i c hc
 exact ⟨_,p,h1,atI_nat e1,e2⟩
theorem atC_get {C:List Tri} {i:Nat} (h:i < C.length):C[i]? = some (atC C i):=by
 unfold atC
 rw [Nat.mod_eq_of_lt h,List.getD_eq_getElem?_getD,List.getElem?_eq_getElem h]
 rfl
def spPlane:Sp:=fun vs H Q _=>∃ (a:Addr) (C:List Tri) (i:Nat),vs=[.ref a,.int (i:Int)]/\CsAt H a C/\i < C.length/\(∀ j,B12 (atC C j))/\(runX C i≠0\/runY C i≠0)/\∀ H' p,Same H H'->QdAt H' p (planeM C i)->Q (.ref p) H'
theorem sc_find_side_plane:FnScope ["corners", "wall", "run", "length", "a", "b"] ["corners", "wall"] (defScope s_find_side_plane):=⟨rfl,rfl,rfl,by decide +kernel,rfl,by decide +kernel,by decide +kernel⟩
theorem ok_find_side_plane (F:At K mg "find_side_plane" s_find_side_plane ["corners", "wall"]) (T:Txt mg) (D_find_run:Def P w K mg base "find_run" 2 ["corners", "line"] spRun):Def P w K mg base "find_side_plane" 3 ["corners", "wall"] spPlane:=by
 refine F.ok sc_find_side_plane (fun vs H Q E h=>?_) (fun f cdv A outer s H vs Q E hr h=>?_)
 ·obtain ⟨_,_,_,rfl,_⟩:=h
  rfl
 ·obtain ⟨a,C,i,rfl,hC,hi,hb,hnz,k⟩:=h
  have nd:=sc_find_side_plane.nd
  have hne:C≠[]:=fun e=>by subst e; simp at hi
  refine ⟨_,(pss_cons (ps_set (i:=2) nd rfl (Or.inl rfl) (pe_callD D_find_run hr (pa_cons (pv 0) (pa_cons (pv 1) pa_nil))))
   (pss_cons (ps_set (i:=3) nd rfl (Or.inl rfl) (pe_callB (call_max2 rfl) (by rfl) T.b_max bt_max (pa_cons (pe_callB call_abs (by rfl) T.b_abs bt_abs (pa_cons (pe_ix ix_tup (pv 2) pe_int (fun _ _=>rfl)) pa_nil)) (pa_cons (pe_callB call_abs (by rfl) T.b_abs bt_abs (pa_cons (pe_ix ix_tup (pv 2) pe_int (fun _ _=>rfl)) pa_nil)) pa_nil))))
   (pss_cons (ps_set (i:=4) nd rfl (Or.inl rfl) (pe_op op_fdivB (pe_un un_neg (pe_ix ix_tup (pv 2) pe_int (fun _ _=>rfl))) (pv 3)))
   (pss_cons (ps_set (i:=5) nd rfl (Or.inl rfl) (pe_op op_fdivB (pe_ix ix_tup (pv 2) pe_int (fun _ _=>rfl)) (pv 3)))
   (pss_one (ps_ret (pe_tup (pa_cons (pv 4) (pa_cons (pv 5) (pa_cons pe_int (pa_cons (pe_op op_add (pe_op op_mulB (pv 4) (pe_ix ix_tup (pe_ix ix_list (pv 0) (pv 1) (fun _ _=>rfl)) pe_int (fun _ _=>rfl))) (pe_op op_mulB (pv 5) (pe_ix ix_tup (pe_ix ix_list (pv 0) (pv 1) (fun _ _=>rfl)) pe_int (fun _ _=>rfl)))) pa_nil))))))))))),?_⟩
  refine ⟨_,rfl,_,rfl,a,C,i,rfl,hC,hne,fun H1 r s1 er=>?_⟩
  have ps:=plane_small hnz
  obtain ⟨xs,pc,g1,g2,⟨rc,g3⟩⟩:=ix_list_at (hC.same s1) (atC_get hi)
  have hx:(runX C i).natAbs<=4095:=step_bd (hb i).1 (hb (i+1)).1
  have hy:(runY C i).natAbs<=4095:=step_bd (hb i).2 (hb (i+1)).2
  have e:(if (if runY C i < 0 then -runY C i else runY C i) > (if runX C i < 0 then -runX C i else runX C i) then (if runY C i < 0 then -runY C i else runY C i) else (if runX C i < 0 then -runX C i else runX C i))=max ((runX C i).natAbs:Int) ((runY C i).natAbs:Int):=by
   rw [if_abs,if_abs,if_max]
  refine ⟨_,rfl,r,_,_,_,rfl,rfl,SqT.of er,rfl,_,rfl,_,rfl,r,_,_,_,rfl,rfl,SqT.of er,rfl,_,rfl,_,_,rfl,?_⟩
  rw [e]
  have dv:=div_bd hnz hx hy
  refine ⟨_,rfl,r,_,_,_,rfl,rfl,SqT.of er,rfl,_,rfl,_,rfl,_,_,rfl,rfl,dv _,?_⟩
  refine ⟨_,rfl,r,_,_,_,rfl,rfl,SqT.of er,rfl,_,rfl,_,_,rfl,rfl,dv _,?_⟩
  refine ⟨_,rfl,_,rfl,_,rfl,_,rfl,_,rfl,a,_,_,_,rfl,rfl,SqL.of g1,g2,pc,_,_,_,rfl,rfl,SqT.of g3,at0,_,_,rfl,rfl,mulOk (m:=2) (n:=13) (small1 ps.1) (small13 (hb i).1) (by decide),?_⟩
  refine ⟨_,rfl,_,rfl,_,rfl,a,_,_,_,rfl,rfl,SqL.of g1,g2,pc,_,_,_,rfl,rfl,SqT.of g3,at1,_,_,rfl,rfl,mulOk (m:=2) (n:=13) (small1 ps.2) (small13 (hb i).2) (by decide),_,_,rfl,rfl,?_⟩
  exact ⟨(by show 4<=sizeLine; decide),fun p hp=>k _ p (s1.trans (same_new hp)) upd_same⟩
def planesM (ns:List Int):List Qd:=(List.range (trisOf ns).length).map (planeM (trisOf ns)) ++ [(0,0,1,0),(0,0,-1,-ns.getD 0 0)]
structure RoomOk (ns:List Int):Prop where
 len:lenOk ns
 len3:ns.length<=300
 bd:∀ x∈ns,x.natAbs<=2 ^ 63
 head:1<=ns.getD 0 0/\ns.getD 0 0<=4095
 b12:∀ j,B12 (atC (trisOf ns) j)
 run:∀ i,i < (trisOf ns).length->runX (trisOf ns) i≠0\/runY (trisOf ns) i≠0
def spPlanes (K:PySem.W.Frag):Sp:=fun vs H Q _=>∃ (a:Addr) (ns:List Int),vs=[.ref a]/\SqL K H a (ns.map V.int)/\RoomOk ns/\∀ H' p,Same H H'->LsAt QdAt H' p (planesM ns)->Q (.ref p) H'
theorem LsAt.cat2 {α:Type} {R:Hp->Addr->α->Prop} {H:Hp} {qs:List Addr} {C:List α} {p1 p2 p:Addr} {c1 c2:α} (hl:qs.length=C.length) (h:∀ (i:Nat) q c,qs[i]? = some q->C[i]? = some c->R H q c) (h1:R H p1 c1) (h2:R H p2 c2) (hp:H p=some (.lst (qs.map V.ref ++ [.ref p1,.ref p2]))):LsAt R H p (C ++ [c1,c2]):=by
 refine ⟨qs ++ [p1,p2],by rw [List.map_append]; exact hp,by simp [hl],fun i q c hq hc=>?_⟩
 by_cases l:i < C.length
 ·rw [List.getElem?_append_left (by omega)] at hq
  rw [List.getElem?_append_left l] at hc
  exact h i q c hq hc
 ·rw [List.getElem?_append_right (by omega)] at hq
  rw [List.getElem?_append_right (by omega)] at hc
  rw [hl] at hq
  match i - C.length,hq,hc with
  | 0,hq,hc =>
   cases hq
   cases hc
   exact h1
  | 1,hq,hc =>
   cases hq
   cases hc
   exact h2
theorem sc_list_planes:FnScope ["room", "corners", "sides", "wall"] ["room"] (defScope s_list_planes):=⟨rfl,rfl,rfl,by decide +kernel,rfl,by decide +kernel,by decide +kernel⟩
theorem ok_list_planes (F:At K mg "list_planes" s_list_planes ["room"]) (T:Txt mg) (D_list_corners:Def P w K mg base "list_corners" 1 ["room"] (spCorners K)) (D_find_side_plane:Def P w K mg base "find_side_plane" 3 ["corners", "wall"] spPlane):Def P w K mg base "list_planes" 4 ["room"] (spPlanes K):=by
 refine F.ok sc_list_planes (fun vs H Q E h=>?_) (fun f cdv A outer s H vs Q E hr h=>?_)
 ·obtain ⟨_,_,rfl,_⟩:=h
  rfl
 ·obtain ⟨a,ns,rfl,hS,ro,k⟩:=h
  have nd:=sc_list_planes.nd
  have l3:12<=ns.length:=by have:=ro.len.2.1; omega
  have tl:=tris_lt ro.len3
  refine ⟨_,(pss_cons (ps_set (i:=1) nd rfl (Or.inr rfl) (pe_callD D_list_corners hr (pa_cons (pv 0) pa_nil)))
   (pss_cons (ps_setLc (i:=2) rfl nd rfl rfl (sw_true rfl rfl rfl rfl) (pi_range1 (by rfl) T.b_range (pa_cons (pe_callB call_len_seq (by rfl) T.b_len bt_len (pa_cons (pv 1) pa_nil)) pa_nil)) (blkOk_by (own:=[("wall",3)]) (by show blkC ["room", "corners", "sides", "wall"] (defScope s_list_planes) _ _=true; decide +kernel)) (fun _ _ _ _ _=>(pg_name (i:=3) nd rfl (Or.inl rfl))) (fun _ _ _ _ _=>pts_nil) (fun _ _ _ _ _=>(pe_callD D_find_side_plane hr (pa_cons (pv 1) (pa_cons (pv 3) pa_nil)))))
   (pss_one (ps_ret (pe_op op_cat (pv 2) (pe_lst (pa_cons (pe_tup (pa_cons pe_int (pa_cons pe_int (pa_cons pe_int (pa_cons pe_int pa_nil))))) (pa_cons (pe_tup (pa_cons pe_int (pa_cons pe_int (pa_cons (pe_un un_neg pe_int) (pa_cons (pe_un un_neg (pe_ix ix_list (pv 0) pe_int (fun _ _=>rfl))) pa_nil))))) pa_nil)))))))),?_⟩
  refine ⟨_,rfl,a,ns,rfl,hS,ro.len.1,(by omega),ro.len3,fun H1 q s1 hC=>?_⟩
  obtain ⟨ps,h1,h2,_⟩:=hC.len
  refine ⟨_,rfl,q,_,rfl,.inl (SqL.of h1),_,rfl,(by omega),(by omega),fun D hD=>lc_range (lo:=0) (n:=(((ps.map V.ref).length:Nat):Int).toNat) (Built QdAt H1 D ((List.range (trisOf ns).length).map (planeM (trisOf ns)))) (built0 hD) ?_ ?_⟩
  ·intro i H2 hi b
   have ei:(0:Int)+(i:Int)=(i:Int):=by omega
   rw [ei]
   have hi:i < (trisOf ns).length:=by omega
   refine ⟨rfl,_,rfl,_,rfl,q,trisOf ns,i,rfl,(hC.same b.1).cs,hi,ro.b12,ro.run i hi,fun H3 p s3 hE=>Built.step Tp.qd hD (c:=planeM (trisOf ns) i) ?_ ?_ b s3 hE⟩
   ·rw [List.getElem?_map,List.getElem?_range hi]
    rfl
   ·rw [List.length_map,List.length_range]
    exact Nat.le_trans (Nat.le_of_lt tl) (by decide)
  ·intro H2 b
   have e:(((ps.map V.ref).length:Nat):Int).toNat=((List.range (trisOf ns).length).map (planeM (trisOf ns))).length:=by simp at h2 ⊢; omega
   rw [e] at b
   obtain ⟨qs,g1,g2,g3⟩:=b.done
   have s2:=b.1
   have s12:=s1.trans s2
   refine ⟨_,rfl,(by show 4<=sizeLine; decide),fun p1 hp1=>?_⟩
   have n1:=same_new (o:=.tup [.int 0,.int 0,.int 1,.int 0]) hp1
   refine ⟨_,rfl,_,rfl,a,_,_,_,rfl,rfl,n1.seq (s12.seq hS),at_int (i:=0) rfl (by omega),_,rfl,(by show 4<=sizeLine; decide),fun p2 hp2=>?_⟩
   have n2:=same_new (o:=.tup [.int 0,.int 0,.int (-1),.int (-ns.getD 0 0)]) hp2
   refine ⟨(by show 2<=sizeLine; decide),fun p3 hp3=>?_⟩
   have n3:=same_new (o:=.lst [.ref p1,.ref p2]) hp3
   have n123:=n1.trans (n2.trans n3)
   refine ⟨D,p3,_,_,rfl,rfl,n123 _ _ g1,upd_same,?_,fun p4 hp4=>?_⟩
   ·have:(trisOf ns).length+2<=sizeLine:=Nat.le_trans (show _<=1002 by omega) (by decide)
    rw [List.length_map,g2]
    simpa using this
   ·have n4:=same_new (o:=.lst (qs.map V.ref ++ [.ref p1,.ref p2])) hp4
    have all:=n123.trans n4
    refine k _ p4 (s12.trans all) (LsAt.cat2 g2 (fun i q c x y=>(g3 i q c x y).same all) ?_ ?_ upd_same)
    ·exact n4 _ _ (n3 _ _ (n2 _ _ upd_same))
    ·exact n4 _ _ (n3 _ _ upd_same)
def heightM (p:Qd) (q:Tri):Int:=p.1*q.1+p.2.1*q.2.1+p.2.2.1*q.2.2 - p.2.2.2
def squareM (p:Qd):Int:=p.1*p.1+p.2.1*p.2.1+p.2.2.1*p.2.2.1
def stepsM (p:Qd) (q:Tri):Int:=2*heightM p q / squareM p
def mirrorM (p:Qd) (q:Tri):Tri:=(q.1 - stepsM p q*p.1,q.2.1 - stepsM p q*p.2.1,q.2.2 - stepsM p q*p.2.2.1)
def B1 (z:Int):Prop:=-1<=z/\z<=1
structure PlOk (p:Qd):Prop where
 a:B1 p.1
 b:B1 p.2.1
 c:B1 p.2.2.1
 d:p.2.2.2.natAbs<=8190
 sq:squareM p=1\/squareM p=2
def Pb (q:Tri) (B:Nat):Prop:=q.1.natAbs<=B/\q.2.1.natAbs<=B/\q.2.2.natAbs<=B
theorem small_mul {a x:Int} (h:B1 a):(a*x).natAbs<=x.natAbs:=by
 have:a=-1\/a=0\/a=1:=by unfold B1 at h; omega
 rcases this with rfl | rfl | rfl
 ·rw [Int.neg_mul,Int.one_mul,Int.natAbs_neg]
  exact Nat.le_refl _
 ·rw [Int.zero_mul]
  exact Nat.zero_le _
 ·rw [Int.one_mul]
  exact Nat.le_refl _
theorem height_bd {p:Qd} {q:Tri} {B:Nat} (ok:PlOk p) (hb:Pb q B):(heightM p q).natAbs<=3*B+8190:=by
 have h1:=small_mul (x:=q.1) ok.a
 have h2:=small_mul (x:=q.2.1) ok.b
 have h3:=small_mul (x:=q.2.2) ok.c
 have h4:=ok.d
 obtain ⟨b1,b2,b3⟩:=hb
 rw [Nat.succ_mul,Nat.two_mul]
 exact Nat.le_trans (Int.natAbs_sub_le _ _) (Nat.add_le_add (Nat.le_trans (Int.natAbs_add_le _ _) (Nat.add_le_add (Nat.le_trans (Int.natAbs_add_le _ _) (Nat.add_le_add (Nat.le_trans h1 b1) (Nat.le_trans h2 b2))) (Nat.le_trans h3 b3))) h4)
def spHeight:Sp:=fun vs H Q _=>∃ (pl pp:Addr) (p:Qd) (q:Tri),vs=[.ref pl,.ref pp]/\QdAt H pl p/\TriAt H pp q/\PlOk p/\Pb q 100000/\∀ H',Same H H'->Q (.int (heightM p q)) H'
theorem sm_ok {a x:Int} (h:B1 a) (hx:x.natAbs<=100000):CMulB a x:=mulOk (m:=2) (n:=17) (by unfold B1 at h; omega) (by omega) (by decide)
theorem sc_measure_height:FnScope ["plane", "point"] ["plane", "point"] (defScope s_measure_height):=⟨rfl,rfl,rfl,by decide +kernel,rfl,by decide +kernel,by decide +kernel⟩
theorem ok_measure_height (F:At K mg "measure_height" s_measure_height ["plane", "point"]) (T:Txt mg):Def P w K mg base "measure_height" 1 ["plane", "point"] spHeight:=by
 refine F.ok sc_measure_height (fun vs H Q E h=>?_) (fun f cdv A outer s H vs Q E hr h=>?_)
 ·obtain ⟨_,_,_,_,rfl,_⟩:=h
  rfl
 ·obtain ⟨pl,pp,p,q,rfl,hp,hq,ok,hb,k⟩:=h
  have nd:=sc_measure_height.nd
  refine ⟨_,(pss_one (ps_ret (pe_op op_sub (pe_op op_add (pe_op op_add (pe_op op_mulB (pe_ix ix_tup (pv 0) pe_int (fun _ _=>rfl)) (pe_ix ix_tup (pv 1) pe_int (fun _ _=>rfl))) (pe_op op_mulB (pe_ix ix_tup (pv 0) pe_int (fun _ _=>rfl)) (pe_ix ix_tup (pv 1) pe_int (fun _ _=>rfl)))) (pe_op op_mulB (pe_ix ix_tup (pv 0) pe_int (fun _ _=>rfl)) (pe_ix ix_tup (pv 1) pe_int (fun _ _=>rfl)))) (pe_ix ix_tup (pv 0) pe_int (fun _ _=>rfl))))),?_⟩
  refine ⟨_,rfl,pl,_,_,_,rfl,rfl,SqT.of hp,rfl,_,rfl,pp,_,_,_,rfl,rfl,SqT.of hq,rfl,_,_,rfl,rfl,sm_ok ok.a hb.1,?_⟩
  refine ⟨_,rfl,pl,_,_,_,rfl,rfl,SqT.of hp,rfl,_,rfl,pp,_,_,_,rfl,rfl,SqT.of hq,rfl,_,_,rfl,rfl,sm_ok ok.b hb.2.1,_,_,rfl,rfl,?_⟩
  refine ⟨_,rfl,pl,_,_,_,rfl,rfl,SqT.of hp,rfl,_,rfl,pp,_,_,_,rfl,rfl,SqT.of hq,rfl,_,_,rfl,rfl,sm_ok ok.c hb.2.2,_,_,rfl,rfl,?_⟩
  exact ⟨_,rfl,pl,_,_,_,rfl,rfl,SqT.of hp,rfl,_,_,rfl,rfl,k _ (Same.refl H)⟩
def spMirror:Sp:=fun vs H Q _=>∃ (pl pp:Addr) (p:Qd) (q:Tri),vs=[.ref pl,.ref pp]/\QdAt H pl p/\TriAt H pp q/\PlOk p/\Pb q 100000/\∀ H' r,Same H H'->TriAt H' r (mirrorM p q)->(H r=none)->Q (.ref r) H'
theorem steps_bd {p:Qd} {q:Tri} {B:Nat} (ok:PlOk p) (hb:Pb q B):(stepsM p q).natAbs<=6*B+16380:=by
 have h:=height_bd ok hb
 unfold stepsM
 rcases ok.sq with e | e
 ·rw [e,Int.ediv_one]
  omega
 ·rw [e]
  omega
theorem sc_mirror:FnScope ["plane", "point", "square", "steps"] ["plane", "point"] (defScope s_mirror):=⟨rfl,rfl,rfl,by decide +kernel,rfl,by decide +kernel,by decide +kernel⟩
theorem ok_mirror (F:At K mg "mirror" s_mirror ["plane", "point"]) (T:Txt mg) (D_measure_height:Def P w K mg base "measure_height" 1 ["plane", "point"] spHeight):Def P w K mg base "mirror" 2 ["plane", "point"] spMirror:=by
 refine F.ok sc_mirror (fun vs H Q E h=>?_) (fun f cdv A outer s H vs Q E hr h=>?_)
 ·obtain ⟨_,_,_,_,rfl,_⟩:=h
  rfl
 ·obtain ⟨pl,pp,p,q,rfl,hp,hq,ok,hb,k⟩:=h
  have nd:=sc_mirror.nd
  have one:∀ {z:Int},B1 z->z.natAbs<=100000:=fun h=>by unfold B1 at h; omega
  have sb:=steps_bd ok hb
  have hh:=height_bd ok hb
  have sm:∀ {z:Int},B1 z->CMulB (stepsM p q) z:=fun h=>mulOk (m:=30) (n:=2) (by omega) (by unfold B1 at h; omega) (by decide)
  refine ⟨_,(pss_cons (ps_set (i:=2) nd rfl (Or.inl rfl) (pe_op op_add (pe_op op_add (pe_op op_mulB (pe_ix ix_tup (pv 0) pe_int (fun _ _=>rfl)) (pe_ix ix_tup (pv 0) pe_int (fun _ _=>rfl))) (pe_op op_mulB (pe_ix ix_tup (pv 0) pe_int (fun _ _=>rfl)) (pe_ix ix_tup (pv 0) pe_int (fun _ _=>rfl)))) (pe_op op_mulB (pe_ix ix_tup (pv 0) pe_int (fun _ _=>rfl)) (pe_ix ix_tup (pv 0) pe_int (fun _ _=>rfl)))))
   (pss_cons (ps_set (i:=3) nd rfl (Or.inl rfl) (pe_op op_fdivB (pe_op op_mulB pe_int (pe_callD D_measure_height hr (pa_cons (pv 0) (pa_cons (pv 1) pa_nil)))) (pv 2)))
   (pss_one (ps_ret (pe_tup (pa_cons (pe_op op_sub (pe_ix ix_tup (pv 1) pe_int (fun _ _=>rfl)) (pe_op op_mulB (pv 3) (pe_ix ix_tup (pv 0) pe_int (fun _ _=>rfl)))) (pa_cons (pe_op op_sub (pe_ix ix_tup (pv 1) pe_int (fun _ _=>rfl)) (pe_op op_mulB (pv 3) (pe_ix ix_tup (pv 0) pe_int (fun _ _=>rfl)))) (pa_cons (pe_op op_sub (pe_ix ix_tup (pv 1) pe_int (fun _ _=>rfl)) (pe_op op_mulB (pv 3) (pe_ix ix_tup (pv 0) pe_int (fun _ _=>rfl)))) pa_nil)))))))),?_⟩
  refine ⟨_,rfl,pl,_,_,_,rfl,rfl,SqT.of hp,rfl,_,rfl,pl,_,_,_,rfl,rfl,SqT.of hp,rfl,_,_,rfl,rfl,sm_ok ok.a (one ok.a),?_⟩
  refine ⟨_,rfl,pl,_,_,_,rfl,rfl,SqT.of hp,rfl,_,rfl,pl,_,_,_,rfl,rfl,SqT.of hp,rfl,_,_,rfl,rfl,sm_ok ok.b (one ok.b),_,_,rfl,rfl,?_⟩
  refine ⟨_,rfl,pl,_,_,_,rfl,rfl,SqT.of hp,rfl,_,rfl,pl,_,_,_,rfl,rfl,SqT.of hp,rfl,_,_,rfl,rfl,sm_ok ok.c (one ok.c),_,_,rfl,rfl,?_⟩
  refine ⟨_,rfl,_,rfl,pl,pp,p,q,rfl,hp,hq,ok,hb,fun H1 s1=>?_⟩
  have hp1:=hp.same s1
  have hq1:=hq.same s1
  refine ⟨_,_,rfl,rfl,mulOk (m:=2) (n:=30) (by decide) (by omega) (by decide),_,rfl,_,_,rfl,rfl,⟨?_,PyProof.noPylong_small ?_⟩,?_⟩
  ·show 0 < squareM p
   rcases ok.sq with e | e <;> rw [e] <;> decide
  ·show (squareM p).natAbs < _
   rcases ok.sq with e | e <;> rw [e] <;> decide
  ·refine ⟨_,rfl,pp,_,_,_,rfl,rfl,SqT.of hq1,rfl,_,rfl,_,rfl,pl,_,_,_,rfl,rfl,SqT.of hp1,rfl,_,_,rfl,rfl,sm ok.a,_,_,rfl,rfl,?_⟩
   refine ⟨_,rfl,pp,_,_,_,rfl,rfl,SqT.of hq1,rfl,_,rfl,_,rfl,pl,_,_,_,rfl,rfl,SqT.of hp1,rfl,_,_,rfl,rfl,sm ok.b,_,_,rfl,rfl,?_⟩
   refine ⟨_,rfl,pp,_,_,_,rfl,rfl,SqT.of hq1,rfl,_,rfl,_,rfl,pl,_,_,_,rfl,rfl,SqT.of hp1,rfl,_,_,rfl,rfl,sm ok.c,_,_,rfl,rfl,?_⟩
   refine ⟨(by show 3<=sizeLine; decide),fun r hr=>k _ r (s1.trans (same_new hr)) upd_same ?_⟩
   cases e:H r with
   | none=>rfl
   | some o =>
    have:=s1 _ _ e
    rw [hr] at this
    cases this
end
end Gn
namespace Gn
open PySem PySem.Spec PyProof.Rows L2 Lw
open PySem.W (Codec WData)
noncomputable def out (S:Addr->Prop) (H:Hp):Hp:=fun a=>@ite _ (S a) (Classical.propDecidable _) none (H a)
theorem out_some {S:Addr->Prop} {H:Hp} {a:Addr} {o:HO}:out S H a=some o↔¬ S a/\H a=some o:=by
 unfold out
 by_cases c:S a
 ·rw [if_pos c]
  constructor
  ·intro h; cases h
  ·intro h; exact absurd c h.1
 ·rw [if_neg c]
  exact ⟨fun h=>⟨c,h⟩,fun h=>h.2⟩
theorem sout {S:Addr->Prop} {H H':Hp} (s:Same H H'):Same (out S H) (out S H'):=fun a o h=>out_some.mpr ⟨(out_some.mp h).1,s a o (out_some.mp h).2⟩
theorem out_same {S:Addr->Prop} {H:Hp}:Same (out S H) H:=fun _ _ h=>(out_some.mp h).2
theorem out_mono {S S':Addr->Prop} {H:Hp} (h:∀ a,S' a->S a):Same (out S H) (out S' H):=fun a _ e=>out_some.mpr ⟨fun q=>(out_some.mp e).1 (h a q),(out_some.mp e).2⟩
theorem out_upd {S:Addr->Prop} {H:Hp} {D:Addr} {o:HO} (h:S D):Same (out S H) (out S (upd H D o)):=fun a _ e=>by
 have q:=out_some.mp e
 refine out_some.mpr ⟨q.1,?_⟩
 rw [upd_ne (fun z=>q.1 (by rw [z]; exact h))]
 exact q.2
theorem out_new {S:Addr->Prop} {H:Hp} {p:Addr} {o:HO} (h:¬ S p) (e:H p=some o):out S H p=some o:=out_some.mpr ⟨h,e⟩
abbrev Way:=List Nat×List Tri
def nV (l:List Nat):List V:=l.map fun (n:Nat)=>V.int (n:Int)
def WayAt (H:Hp) (p:Addr) (y:Way):Prop:=∃ a b,H p=some (.tup [.ref a,.ref b])/\H a=some (.lst (nV y.1))/\LsAt TriAt H b y.2
theorem WayAt.same {H H':Hp} {p:Addr} {y:Way} (h:WayAt H p y) (s:Same H H'):WayAt H' p y:=by
 obtain ⟨a,b,h1,h2,h3⟩:=h
 exact ⟨a,b,s _ _ h1,s _ _ h2,h3.tp Tp.tri s⟩
def lastT (l:List Tri):Tri:=l.getLastD (0,0,0)
def stepAt (pls:List Qd) (y:Way) (w:Nat):Option Way:=(pls[w]?).bind fun pl=>if 0 < heightM pl (lastT y.2) then some (y.1 ++ [w],y.2 ++ [mirrorM pl (lastT y.2)]) else none
def stepTo (pls:List Qd) (y:Way) (i:Nat):List Way:=(List.range i).filterMap (stepAt pls y)
def stepM (pls:List Qd) (y:Way):List Way:=stepTo pls y pls.length
theorem stepTo_succ (pls:List Qd) (y:Way) (i:Nat):stepTo pls y (i+1)=stepTo pls y i ++ (stepAt pls y i).toList:=by
 unfold stepTo
 rw [List.range_succ,List.filterMap_append]
 cases e:stepAt pls y i <;> simp [e]
theorem stepTo_len (pls:List Qd) (y:Way) (i:Nat):(stepTo pls y i).length<=i:=by
 unfold stepTo
 have:=List.length_filterMap_le (stepAt pls y) (List.range i)
 rw [List.length_range] at this
 exact this
structure WayOk (y:Way) (m:Nat):Prop where
 w:y.1.length<=m
 s:y.2.length<=m+1
 ne:y.2≠[]
 b:∀ q∈y.2,Pb q 100000
structure PlsOk (pls:List Qd):Prop where
 len:pls.length<=1000
 ok:∀ p∈pls,PlOk p
theorem last_at {l:List Tri} (h:l≠[]):l[l.length - 1]? = some (lastT l):=by
 unfold lastT
 rw [List.getLastD_eq_getLast?,List.getLast?_eq_getElem?]
 have:0 < l.length:=List.length_pos_iff.mpr h
 rw [List.getElem?_eq_getElem (by omega)]
 rfl
theorem last_mem {l:List Tri} (h:l≠[]):lastT l∈l:=List.mem_of_getElem? (last_at h)
theorem atI_last {α:Type} {xs:List α} {v:α} (h:xs[xs.length - 1]? = some v):atI xs (-1)=some v:=by
 have hl:=(List.getElem?_eq_some_iff.mp h).1
 unfold atI ixN
 rw [if_neg (by decide),if_pos (by omega)]
 have:((-1:Int)+(xs.length:Int)).toNat=xs.length - 1:=by omega
 show xs[((-1:Int)+(xs.length:Int)).toNat]? = some v
 rw [this]
 exact h
theorem LsAt.last {H:Hp} {a:Addr} {C:List Tri} (h:LsAt TriAt H a C) (hne:C≠[]):∃ xs p,H a=some (.lst xs)/\xs.length=C.length/\atI xs (-1)=some (.ref p)/\TriAt H p (lastT C):=by
 obtain ⟨ps,h1,h2,h3⟩:=h.item
 obtain ⟨p,e1,e2⟩:=h3 (C.length - 1) (lastT C) (last_at hne)
 refine ⟨_,p,h1,by rw [List.length_map,h2],atI_last ?_,e2⟩
 rw [List.length_map,h2]
 exact e1
theorem LsAt.snoc {α:Type} {R:Hp->Addr->α->Prop} {H:Hp} {qs:List Addr} {C:List α} {p1 p:Addr} {c1:α} (hl:qs.length=C.length) (h:∀ (i:Nat) q c,qs[i]? = some q->C[i]? = some c->R H q c) (h1:R H p1 c1) (hp:H p=some (.lst (qs.map V.ref ++ [.ref p1]))):LsAt R H p (C ++ [c1]):=by
 refine ⟨qs ++ [p1],by rw [List.map_append]; exact hp,by simp [hl],fun i q c hq hc=>?_⟩
 by_cases l:i < C.length
 ·rw [List.getElem?_append_left (by omega)] at hq
  rw [List.getElem?_append_left l] at hc
  exact h i q c hq hc
 ·rw [List.getElem?_append_right (by omega)] at hq
  rw [List.getElem?_append_right (by omega)] at hc
  rw [hl] at hq
  match i - C.length,hq,hc with
  | 0,hq,hc =>
   cases hq
   cases hc
   exact h1
theorem fresh_back {H H':Hp} {p:Addr} (s:Same H H') (h:H' p=none):H p=none:=by
 cases e:H p with
 | none=>rfl
 | some o =>
  have:=s _ _ e
  rw [h] at this
  cases this
section
variable {P:Program} {w:World} {K:PySem.W.Frag} {mg:Str->Option Value} {base:Heap}
def spLengthen (K:PySem.W.Frag):Sp:=fun vs H Q _=>∃ (S:Addr->Prop) (pp pw:Addr) (pls:List Qd) (y:Way),vs=[.ref pp,.ref pw]/\(∀ x,S x->H x≠none)/\LsAt QdAt H pp pls/\WayAt (out S H) pw y/\WayOk y 10/\PlsOk pls /\
 ∀ H' r,Same H H'->LsAt WayAt (out S H') r (stepM pls y)->H r=none->Q (.ref r) H'
theorem sc_lengthen_way:FnScope ["planes", "way", "walls", "starts", "wall", "plane"] ["planes", "way"] (defScope s_lengthen_way):=⟨rfl,rfl,rfl,by decide +kernel,rfl,by decide +kernel,by decide +kernel⟩
theorem ok_lengthen_way (F:At K mg "lengthen_way" s_lengthen_way ["planes", "way"]) (T:Txt mg) (D_measure_height:Def P w K mg base "measure_height" 1 ["plane", "point"] spHeight) (D_mirror:Def P w K mg base "mirror" 2 ["plane", "point"] spMirror):Def P w K mg base "lengthen_way" 3 ["planes", "way"] (spLengthen K):=by
 refine F.ok sc_lengthen_way (fun vs H Q E h=>?_) (fun f cdv A outer s H vs Q E hr h=>?_)
 ·obtain ⟨_,_,_,_,_,rfl,_⟩:=h
  rfl
 ·obtain ⟨S,pp,pw,pls,y,rfl,hSn,hP,hY,yo,po,k⟩:=h
  have nd:=sc_lengthen_way.nd
  obtain ⟨a,b,hw,ha,hb⟩:=id (hY.same out_same)
  obtain ⟨a',b',hw',ha',hb'⟩:=hY
  have e1:=(out_some.mp hw').2.symm.trans hw
  cases e1
  obtain ⟨ps,hp1,hp2,hp3⟩:=hP.item
  have hlast:=last_mem yo.ne
  have bl:=yo.b _ hlast
  refine ⟨_,(pss_cons (ps_set (i:=2) nd rfl (Or.inr rfl) (pe_ix ix_tup (pv 1) pe_int (fun _ _=>rfl)))
   (pss_cons (ps_set (i:=3) nd rfl (Or.inr rfl) (pe_ix ix_tup (pv 1) pe_int (fun _ _=>rfl)))
   (pss_one (ps_ret (pe_lc rfl nd (pi_enum (by rfl) T.b_enumerate (pa_cons (pv 0) pa_nil)) (blkOk_by (own:=[("wall",4),("plane",5)]) (by show blkC ["planes", "way", "walls", "starts", "wall", "plane"] (defScope s_lengthen_way) _ _=true; decide +kernel)) (fun _ _ _ _ _=>(show PG _ _ (gTup K 2 _) from (pg_tup rfl (pgs_cons (pg_name (i:=4) nd rfl (Or.inl rfl)) (pgs_cons (pg_name (i:=5) nd rfl (Or.inl rfl)) pgs_nil))))) (fun _ _ _ _ _=>(pts_one (pt_cmpR op_gt (pe_callD D_measure_height hr (pa_cons (pv 5) (pa_cons (pe_ix (show IxR _ (rIxL K) from ix_list) (pv 3) (pe_un un_neg pe_int) (fun _ _=>rfl)) pa_nil))) pe_int (nomark _)))) (fun _ _ _ _ _=>(pe_tup (pa_cons (pe_op op_cat (pv 2) (pe_lst (pa_cons (pv 4) pa_nil))) (pa_cons (pe_op op_cat (pv 3) (pe_lst (pa_cons (pe_callD D_mirror hr (pa_cons (pv 5) (pa_cons (pe_ix (show IxR _ (rIxL K) from ix_list) (pv 3) (pe_un un_neg pe_int) (fun _ _=>rfl)) pa_nil))) pa_nil))) pa_nil))))))))),?_⟩
  refine ⟨_,rfl,pw,_,_,_,rfl,rfl,SqT.of hw,rfl,_,rfl,pw,_,_,_,rfl,rfl,SqT.of hw,rfl,?_⟩
  refine ⟨_,rfl,pp,_,rfl,SqL.of hp1,fun D hD=>lc_enum (K:=K) (a:=pp) (xs:=ps.map V.ref) (fun i H'=>Same H H'/\∃ qs:List Addr,H' D=some (.lst (qs.map V.ref))/\qs.length=(stepTo pls y i).length/\∀ (j:Nat) p c,qs[j]? = some p->(stepTo pls y i)[j]? = some c->WayAt (out (fun x=>S x\/x=D) H') p c) ⟨same_new hD,[],upd_same,rfl,fun j p c h=>by simp at h⟩ (fun i H' _ q=>q.1.seq (SqL.of hp1)) ?_ ?_⟩
  ·rintro i x H1 T1 hx ⟨s1,qs,g1,g2,g3⟩ hT1
   have hi:i < pls.length:=by
    have:=(List.getElem?_eq_some_iff.mp hx).1
    rw [List.length_map,hp2] at this
    exact this
   obtain ⟨q,e1,e2⟩:=hp3 i pls[i] (List.getElem?_eq_getElem hi)
   rw [e1] at hx
   cases hx
   have po1:=po.ok _ (List.getElem_mem hi)
   generalize hpl:pls[i]=pl at *
   have hpl? : pls[i]? = some pl:=by rw [List.getElem?_eq_getElem hi,hpl]
   have nT:=same_new (o:=.tup [.int (i:Nat),.ref q]) hT1
   have sT:=s1.trans nT
   obtain ⟨xs,lp,k1,k2,k3,k4⟩:=hb.last yo.ne
   have sa:stepAt pls y i=if 0 < heightM pl (lastT y.2) then some (y.1 ++ [i],y.2 ++ [mirrorM pl (lastT y.2)]) else none:=by
    unfold stepAt
    rw [hpl?]
    rfl
   refine ⟨T1,_,rfl,SqT.of upd_same,rfl,_,_,rfl,_,_,rfl,rfl,rfl,?_⟩
   refine ⟨_,rfl,_,rfl,_,rfl,b,_,_,_,rfl,rfl,SqL.of (sT _ _ k1),k3,q,lp,pl,lastT y.2,rfl,e2.same sT,k4.same sT,po1,bl,fun H3 s3=>⟨_,_,rfl,rfl,_,rfl,?_⟩⟩
   have s13:=nT.trans s3
   have sH3:=s1.trans s13
   refine ite2 (fun c=>?_) (fun c=>?_)
   ·have c:0 < heightM pl (lastT y.2):=by simpa using c
    rw [if_pos c] at sa
    refine ⟨_,rfl,_,rfl,(by show 1<=sizeLine; decide),fun l1 hl1=>?_⟩
    have n1:=same_new (o:=.lst [.int (i:Nat)]) hl1
    refine ⟨a,l1,_,_,rfl,rfl,n1 _ _ (sH3 _ _ ha),upd_same,?_,fun l2 hl2=>?_⟩
    ·have:=yo.w
     have:(nV y.1).length+1<=sizeLine:=Nat.le_trans (show _<=11 by unfold nV; rw [List.length_map]; omega) (by decide)
     simpa using this
    have n2:=same_new (o:=.lst (nV y.1 ++ [.int (i:Nat)])) hl2
    have s15:=s13.trans (n1.trans n2)
    have sH5:=s1.trans s15
    refine ⟨_,rfl,_,rfl,_,rfl,_,rfl,b,_,_,_,rfl,rfl,SqL.of (sH5 _ _ k1),k3,q,lp,pl,lastT y.2,rfl,e2.same sH5,k4.same sH5,po1,bl,fun H6 r s6 hr6 hrn=>⟨(by show 1<=sizeLine; decide),fun l3 hl3=>?_⟩⟩
    have n3:=same_new (o:=.lst [.ref r]) hl3
    have s17:=s15.trans (s6.trans n3)
    have sH7:=s1.trans s17
    refine ⟨b,l3,_,_,rfl,rfl,sH7 _ _ k1,upd_same,?_,fun l4 hl4=>?_⟩
    ·have:=yo.s
     have:xs.length+1<=sizeLine:=Nat.le_trans (show _<=12 by omega) (by decide)
     simpa using this
    refine ⟨(by show 2<=sizeLine; decide),fun t ht=>?_⟩
    have n4:=same_new (o:=.lst (xs ++ [.ref r])) hl4
    have n5:=same_new (o:=.tup [.ref l2,.ref l4]) ht
    have s18:=s17.trans (n4.trans n5)
    have sH8:=s1.trans s18
    have hD8:=s18 _ _ g1
    refine ⟨_,hD8,?_,upd_keep hD sH8,qs ++ [t],?_,?_,?_⟩
    ·have:=stepTo_len pls y i
     have:=po.len
     rw [List.length_map,g2]
     exact Nat.lt_of_lt_of_le (show _ < 1001 by omega) (by decide)
    ·rw [List.map_append]
     exact upd_same
    ·rw [stepTo_succ,sa]
     simp [g2]
    ·intro j p c hq hc
     refine WayAt.same ?_ (out_upd (S:=fun x=>S x\/x=D) (.inr rfl))
     rw [stepTo_succ,sa] at hc
     by_cases l:j < qs.length
     ·rw [List.getElem?_append_left l] at hq
      rw [List.getElem?_append_left (by omega)] at hc
      exact (g3 j p c hq hc).same (sout s18)
     ·have ej:j=qs.length:=by
       have:=(List.getElem?_eq_some_iff.mp hq).1
       simp at this
       omega
      subst ej
      simp at hq
      subst hq
      rw [g2] at hc
      simp at hc
      subst hc
      have bad:∀ {x:Addr},H1 x=none->¬ (S x\/x=D):=fun {x} hx z=>by
       rcases z with z | z
       ·have:=fresh_back s1 hx
        exact hSn x z this
       ·subst z
        rw [g1] at hx
        cases hx
      have f2:H1 l2=none:=fresh_back (s13.trans n1) hl2
      have f4:H1 l4=none:=fresh_back s17 hl4
      have ft:H1 t=none:=fresh_back (s17.trans n4) ht
      refine ⟨l2,l4,out_new (bad ft) upd_same,out_new (bad f2) ?_,?_⟩
      ·have:=(s6.trans (n3.trans (n4.trans n5))) _ _ (upd_same (H:=upd H3 l1 (.lst [.int (i:Nat)])) (a:=l2) (o:=.lst (nV y.1 ++ [.int (i:Nat)])))
       rw [this]
       unfold nV
       rw [List.map_append]
       rfl
      ·obtain ⟨us,u1,u2,u3⟩:=hb'
       have ux:xs=us.map V.ref:=by
        have:=(out_some.mp u1).2.symm.trans k1
        cases this
        rfl
       refine LsAt.snoc (p1:=r) u2 (fun i' q' c' x1 x2=>?_) ?_ (p:=l4) (out_new (bad f4) ?_)
       ·have tq:=out_some.mp (u3 i' q' c' x1 x2)
        refine out_new (fun z=>?_) (sH8 _ _ tq.2)
        rcases z with z | z
        ·exact tq.1 z
        ·rw [z,hD] at tq
         cases tq.2
       ·exact out_new (bad (fresh_back s15 hrn)) ((n3.trans (n4.trans n5)) _ _ hr6)
       ·rw [← ux]
        exact n5 _ _ upd_same
   ·have c:¬ 0 < heightM pl (lastT y.2):=by simpa using c
    rw [if_neg c] at sa
    rw [stepTo_succ,sa]
    simp only [Option.toList_none,List.append_nil]
    exact ⟨sH3,qs,s13 _ _ g1,g2,fun j p c x1 x2=>(g3 j p c x1 x2).same (sout s13)⟩
  ·rintro H1 ⟨s1,qs,g1,g2,g3⟩
   have e:(ps.map V.ref).length=pls.length:=by rw [List.length_map,hp2]
   rw [e] at g2 g3
   have nD:¬ S D:=fun z=>hSn D z hD
   exact k _ D s1 ⟨qs,out_new nD g1,g2,fun j p c x1 x2=>(g3 j p c x1 x2).same (out_mono fun _ z=>.inl z)⟩ hD
end
end Gn
namespace Gn
open PySem PySem.Spec PyProof.Rows L2 Lw
open PySem.W (Codec WData)
theorem mirror_bd {p:Qd} {q:Tri} {B:Nat} (ok:PlOk p) (hb:Pb q B):Pb (mirrorM p q) (B+16380):=by
 obtain ⟨ha,hb1,hc,hd,hs⟩:=ok
 obtain ⟨a,b,c,d⟩:=p
 obtain ⟨x,y,z⟩:=q
 obtain ⟨b1,b2,b3⟩:=hb
 have hd:d.natAbs<=8190:=hd
 have sg:∀ {t:Int},B1 t->t=0\/t*t=1:=fun {t} h=>by
  unfold B1 at h
  rcases (show t=-1\/t=0\/t=1 by omega) with rfl | rfl | rfl <;> decide
 have z0:∀ {v s:Int},v.natAbs<=B->(v - s*0).natAbs<=B+16380:=fun {v s} h=>by
  rw [Int.mul_zero,Int.sub_zero]
  exact Nat.le_trans h (Nat.le_add_right _ _)
 have m1:∀ {t v:Int},B1 t->t*t=1->v.natAbs<=B->(v - 2*(t*v - d)*t).natAbs<=B+16380:=fun {t v} h1 h2 h3=>by
  have e:v - 2*(t*v - d)*t=-v+2*(t*d):=by grind
  have k:=small_mul (x:=d) h1
  rw [e]
  omega
 have m2:∀ {t v r w:Int},B1 t->B1 r->t*t=1->w.natAbs<=B->(v - (t*v+r*w - d)*t).natAbs<=B+16380:=fun {t v r w} h1 h2 h3 h4=>by
  have e:v - (t*v+r*w - d)*t=-(t*(r*w))+t*d:=by grind
  have k:=small_mul (x:=d) h1
  have k2:=small_mul (x:=r*w) h1
  have k3:=small_mul (x:=w) h2
  rw [e]
  omega
 have h2:∀ t:Int,2*t / (1+1)=t:=fun t=>Int.mul_ediv_cancel_left t (by decide)
 have st:stepsM (a,b,c,d) (x,y,z)=2*(a*x+b*y+c*z - d) / (a*a+b*b+c*c):=rfl
 have sq:a*a+b*b+c*c=1\/a*a+b*b+c*c=2:=hs
 show (x - stepsM (a,b,c,d) (x,y,z)*a).natAbs<=_/\(y - stepsM (a,b,c,d) (x,y,z)*b).natAbs<=_/\(z - stepsM (a,b,c,d) (x,y,z)*c).natAbs<=_
 rw [st]
 rcases sg ha with e1 | e1 <;> rcases sg hb1 with e2 | e2 <;> rcases sg hc with e3 | e3
 ·subst e1 e2 e3
  exact absurd sq (by decide)
 ·subst e1 e2
  rw [e3,Int.zero_mul,Int.zero_mul,Int.zero_mul,Int.zero_add,Int.zero_add,Int.zero_add,Int.ediv_one]
  exact ⟨z0 b1,z0 b2,m1 hc e3 b3⟩
 ·subst e1 e3
  rw [e2,Int.zero_mul,Int.zero_mul,Int.zero_mul,Int.zero_add,Int.add_zero,Int.zero_add,Int.add_zero,Int.ediv_one]
  exact ⟨z0 b1,m1 hb1 e2 b2,z0 b3⟩
 ·subst e1
  rw [e2,e3,Int.zero_mul,Int.zero_mul,Int.zero_add,Int.zero_add,h2]
  refine ⟨z0 b1,m2 hb1 hc e2 b3,?_⟩
  rw [Int.add_comm (b*y)]
  exact m2 hc hb1 e3 b2
 ·subst e2 e3
  rw [e1,Int.zero_mul,Int.zero_mul,Int.zero_mul,Int.add_zero,Int.add_zero,Int.add_zero,Int.add_zero,Int.ediv_one]
  exact ⟨m1 ha e1 b1,z0 b2,z0 b3⟩
 ·subst e2
  rw [e1,e3,Int.zero_mul,Int.zero_mul,Int.add_zero,Int.add_zero,h2]
  refine ⟨m2 ha hc e1 b3,z0 b2,?_⟩
  rw [Int.add_comm (a*x)]
  exact m2 hc ha e3 b1
 ·subst e3
  rw [e1,e2,Int.zero_mul,Int.zero_mul,Int.add_zero,Int.add_zero,h2]
  refine ⟨m2 ha hb1 e1 b2,?_,z0 b3⟩
  rw [Int.add_comm (a*x)]
  exact m2 hb1 ha e2 b1
 ·rw [e1,e2,e3] at sq
  exact absurd sq (by decide)
structure WayL (k:Nat) (y:Way):Prop where
 w:y.1.length=k
 s:y.2.length=k+1
 b:∀ q∈y.2,Pb q (4095+16380*k)
theorem Pb.mono {q:Tri} {B C:Nat} (h:Pb q B) (l:B<=C):Pb q C:=⟨Nat.le_trans h.1 l,Nat.le_trans h.2.1 l,Nat.le_trans h.2.2 l⟩
theorem WayL.ok {k:Nat} {y:Way} (h:WayL k y) (hk:k<=5):WayOk y 10 where
 w:=by have:=h.w; omega
 s:=by have:=h.s; omega
 ne:=fun e=>by have:=h.s; rw [e] at this; simp at this
 b:=fun q hq=>(h.b q hq).mono (by omega)
theorem WayL.step {k:Nat} {y z:Way} {pls:List Qd} (h:WayL k y) (po:PlsOk pls) (hz:z∈stepM pls y):WayL (k+1) z:=by
 unfold stepM stepTo at hz
 obtain ⟨w,_,hw⟩:=List.mem_filterMap.mp hz
 unfold stepAt at hw
 cases e:pls[w]? with
 | none=>rw [e] at hw; cases hw
 | some pl =>
  rw [e] at hw
  simp only [Option.bind_some] at hw
  by_cases c:0 < heightM pl (lastT y.2)
  ·rw [if_pos c] at hw
   cases hw
   have ne:y.2≠[]:=fun e=>by have:=h.s; rw [e] at this; simp at this
   refine ⟨by simp [h.w],by simp [h.s],fun q hq=>?_⟩
   rcases List.mem_append.mp hq with hq | hq
   ·exact (h.b q hq).mono (by omega)
   ·have:q=mirrorM pl (lastT y.2):=by simpa using hq
    subst this
    exact (mirror_bd (po.ok pl (List.mem_of_getElem? e)) (h.b _ (last_mem ne))).mono (by omega)
  ·rw [if_neg c] at hw
   cases hw
def waysM (pls:List Qd) (st:Tri):Nat->List Way
 | 0=>[([],[st])]
 | k+1=>(waysM pls st k).flatMap (stepM pls)
def allWays (pls:List Qd) (st:Tri):Nat->List Way
 | 0=>waysM pls st 0
 | k+1=>allWays pls st k ++ waysM pls st (k+1)
theorem waysL {pls:List Qd} {st:Tri} (po:PlsOk pls) (hs:Pb st 4095):∀ k,∀ y∈waysM pls st k,WayL k y
 | 0,y,hy=>by
  have:y=([],[st]):=by simpa [waysM] using hy
  subst this
  refine ⟨rfl,rfl,fun q hq=>?_⟩
  have:q=st:=by simpa using hq
  subst this
  exact hs
 | k+1,y,hy=>by
  obtain ⟨z,hz,hy⟩:=List.mem_flatMap.mp hy
  exact (waysL po hs k z hz).step po hy
theorem flat_len {α β:Type} {f:α->List β} {n:Nat}:∀ l:List α,(∀ x∈l,(f x).length<=n)->(l.flatMap f).length<=l.length*n
 | [],_=>by simp
 | x :: l,h=>by
  rw [List.flatMap_cons,List.length_append,List.length_cons,Nat.succ_mul]
  have:=flat_len l fun y hy=>h y (List.mem_cons_of_mem _ hy)
  have:=h x (List.mem_cons_self ..)
  omega
theorem ways_len {pls:List Qd} {st:Tri}:∀ k,(waysM pls st k).length<=pls.length ^ k
 | 0=>by simp [waysM]
 | k+1=>by
  have a:=flat_len (f:=stepM pls) (n:=pls.length) (waysM pls st k) fun y _=>stepTo_len pls y _
  have b:=ways_len (pls:=pls) (st:=st) k
  rw [Nat.pow_succ]
  exact Nat.le_trans a (Nat.mul_le_mul_right _ b)
theorem all_len {pls:List Qd} {st:Tri} {most:Nat} (h:pls.length ^ most<=20000) (hp:0 < pls.length):∀ k,k<=most->(waysM pls st k).length<=20000/\(allWays pls st k).length<=(k+1)*20000
 | 0,_=>by simp [waysM,allWays]
 | k+1,hk=>by
  have a:=ways_len (pls:=pls) (st:=st) (k+1)
  have b:=Nat.pow_le_pow_right hp hk
  have c:=(all_len (st:=st) h hp k (by omega)).2
  have d:(allWays pls st (k+1)).length=(allWays pls st k).length+(waysM pls st (k+1)).length:=by
   show (allWays pls st k ++ waysM pls st (k+1)).length=_
   rw [List.length_append]
  exact ⟨by omega,by omega⟩
theorem flat_take {α β:Type} {f:α->List β} {l:List α} {i:Nat} {x:α} (h:l[i]? = some x):(l.take (i+1)).flatMap f=(l.take i).flatMap f ++ f x:=by
 rw [List.take_add_one,h,List.flatMap_append]
 simp
def OpenL (S:Addr->Prop) (w:Addr) (H:Hp) (C:List Way):Prop:=∃ qs:List Addr,H w=some (.lst (qs.map V.ref))/\qs.length=C.length/\∀ (j:Nat) p c,qs[j]? = some p->C[j]? = some c->WayAt (out (fun x=>S x\/x=w) H) p c
theorem OpenL.same {S:Addr->Prop} {w:Addr} {H H':Hp} {C:List Way} (h:OpenL S w H C) (s:Same H H'):OpenL S w H' C:=by
 obtain ⟨qs,h1,h2,h3⟩:=h
 exact ⟨qs,s _ _ h1,h2,fun j p c a b=>(h3 j p c a b).same (sout s)⟩
theorem OpenL.close {S:Addr->Prop} {w:Addr} {H:Hp} {C:List Way} (h:OpenL S w H C) (n:¬ S w):LsAt WayAt (out S H) w C:=by
 obtain ⟨qs,h1,h2,h3⟩:=h
 exact ⟨qs,out_new n h1,h2,fun j p c a b=>(h3 j p c a b).same (out_mono fun _ z=>.inl z)⟩
theorem OpenL.more {S:Addr->Prop} {w r:Addr} {H:Hp} {C C2:List Way} (h:OpenL S w H C) (h2:LsAt WayAt (out (fun x=>S x\/x=w) H) r C2) :
  ∃ xs zs,H w=some (.lst xs)/\H r=some (.lst zs)/\xs.length=C.length/\zs.length=C2.length/\OpenL S w (upd H w (.lst (xs ++ zs))) (C ++ C2):=by
 obtain ⟨qs,a1,a2,a3⟩:=h
 obtain ⟨rs,b1,b2,b3⟩:=h2
 refine ⟨_,_,a1,(out_some.mp b1).2,by rw [List.length_map,a2],by rw [List.length_map,b2],qs ++ rs,by rw [List.map_append]; exact upd_same,by simp [a2,b2],fun j p c x y=>?_⟩
 refine WayAt.same ?_ (out_upd (S:=fun x=>S x\/x=w) (.inr rfl))
 by_cases l:j < qs.length
 ·rw [List.getElem?_append_left l] at x
  rw [List.getElem?_append_left (by omega)] at y
  exact a3 j p c x y
 ·rw [List.getElem?_append_right (by omega)] at x
  rw [List.getElem?_append_right (by omega)] at y
  rw [a2] at x
  exact b3 _ p c x y
theorem out_fresh {S:Addr->Prop} {H H':Hp} {L:Addr} (s:Same H H') (n:H L=none):Same (out S H) (out (fun x=>S x\/x=L) H'):=fun a o e=>by
 have q:=out_some.mp e
 refine out_some.mpr ⟨fun z=>?_,s _ _ q.2⟩
 rcases z with z | z
 ·exact q.1 z
 ·rw [z,n] at q
  cases q.2
theorem LsAt.same' {H H':Hp} {a:Addr} {C:List Way} (h:LsAt WayAt H a C) (s:Same H H'):LsAt WayAt H' a C:=h.sameR s fun _ _ q=>q.same s
section
variable {P:Program} {w:World} {K:PySem.W.Frag} {mg:Str->Option Value} {base:Heap}
def spWays (K:PySem.W.Frag):Sp:=fun vs H Q _=>∃ (S:Addr->Prop) (pp ps:Addr) (pls:List Qd) (st:Tri) (most:Nat),vs=[.ref pp,.ref ps,.int (most:Int)]/\(∀ x,S x->H x≠none)/\LsAt QdAt H pp pls/\TriAt (out S H) ps st/\Pb st 4095/\PlsOk pls/\most<=4/\pls.length ^ most<=20000/\0 < pls.length /\
 ∀ H' r,Same H H'->LsAt WayAt (out S H') r (allWays pls st most)->Q (.ref r) H'
theorem sc_list_ways:FnScope ["planes", "start", "most", "newest", "ways", "turn", "longer", "way"] ["planes", "start", "most"] (defScope s_list_ways):=⟨rfl,rfl,rfl,by decide +kernel,rfl,by decide +kernel,by decide +kernel⟩
theorem ok_list_ways (F:At K mg "list_ways" s_list_ways ["planes", "start", "most"]) (T:Txt mg) (D_lengthen_way:Def P w K mg base "lengthen_way" 3 ["planes", "way"] (spLengthen K)):Def P w K mg base "list_ways" 4 ["planes", "start", "most"] (spWays K):=by
 refine F.ok sc_list_ways (fun vs H Q E h=>?_) (fun f cdv A outer s H vs Q E hr h=>?_)
 ·obtain ⟨_,_,_,_,_,_,rfl,_⟩:=h
  rfl
 ·obtain ⟨S,pp,ps,pls,st,most,rfl,hSn,hP,hst,bst,po,hm,h100,hpos,k⟩:=h
  have nd:=sc_list_ways.nd
  refine ⟨_,(pss_cons (ps_set (i:=3) nd rfl (Or.inl rfl) (pe_lst (pa_cons (pe_tup (pa_cons (pe_lst pa_nil) (pa_cons (pe_lst (pa_cons (pv 1) pa_nil)) pa_nil))) pa_nil)))
   (pss_cons (ps_set (i:=4) nd rfl (Or.inl rfl) (pe_callTy call_list_of (by rfl) T.b_list bt_list (pa_cons (pv 3) pa_nil)))
   (pss_cons (ps_for PassesOwn.never rfl (pi_range1 (by rfl) T.b_range (pa_cons (pv 2) pa_nil)) (pg_name (i:=5) nd rfl (Or.inl rfl)) (pss_cons (ps_set (i:=6) nd rfl (Or.inl rfl) (pe_lst pa_nil))
   (pss_cons (ps_for PassesOwn.never rfl (pi_list (pv 3)) (pg_name (i:=7) nd rfl (Or.inl rfl)) (pss_one (ps_expr (pe_bm PySem.F.plainAttrs_list PySem.F.slot_list_extend PySem.F.type_list_extend mt_extend (pv 6) (pa_cons (pe_callD D_lengthen_way hr (pa_cons (pv 0) (pa_cons (pv 7) pa_nil))) pa_nil)))))
   (pss_cons (ps_set (i:=3) nd rfl (Or.inl rfl) (pv 6))
   (pss_one (ps_expr (pe_bm PySem.F.plainAttrs_list PySem.F.slot_list_extend PySem.F.type_list_extend mt_extend (pv 4) (pa_cons (pv 3) pa_nil))))))))
   (pss_one (ps_ret (pv 4)))))),?_⟩
  refine ⟨(by show 0<=sizeLine; decide),fun l1 hl1=>?_⟩
  have n1:=same_new (o:=.lst []) hl1
  refine ⟨_,rfl,(by show 1<=sizeLine; decide),fun l2 hl2=>?_⟩
  have n2:=same_new (o:=.lst [.ref ps]) hl2
  refine ⟨(by show 2<=sizeLine; decide),fun t ht=>?_⟩
  have n3:=same_new (o:=.tup [.ref l1,.ref l2]) ht
  refine ⟨(by show 1<=sizeLine; decide),fun n hn=>?_⟩
  have n4:=same_new (o:=.lst [.ref t]) hn
  refine ⟨_,rfl,n,_,rfl,.inl (SqL.of upd_same),fun w' hw=>?_⟩
  have s14:=n1.trans (n2.trans (n3.trans n4))
  have fS:∀ {x:Addr} {H':Hp},Same H H'->H' x=none->¬ S x:=fun {x H'} s0 h0 z=>hSn x z (fresh_back s0 h0)
  have way0:WayAt (out S (upd (upd (upd (upd H l1 (.lst [])) l2 (.lst [.ref ps])) t (.tup [.ref l1,.ref l2])) n (.lst [.ref t]))) t ([],[st]):=by
   refine ⟨l1,l2,out_new (fS (n1.trans n2) ht) (n4 _ _ upd_same),out_new (fS (Same.refl H) hl1) (n4 _ _ (n3 _ _ (n2 _ _ upd_same))),[ps],out_new (fS n1 hl2) (n4 _ _ (n3 _ _ upd_same)),rfl,fun i p c x1 x2=>?_⟩
   match i,x1,x2 with
   | 0,x1,x2 =>
    cases x1
    cases x2
    exact sout s14 _ _ hst
  have list0:LsAt WayAt (out S (upd (upd (upd (upd H l1 (.lst [])) l2 (.lst [.ref ps])) t (.tup [.ref l1,.ref l2])) n (.lst [.ref t]))) n (waysM pls st 0):=by
   refine ⟨[t],out_new (fS (n1.trans (n2.trans n3)) hn) upd_same,rfl,fun i p c x1 x2=>?_⟩
   match i,x1,x2 with
   | 0,x1,x2 =>
    cases x1
    cases x2
    exact way0
  generalize upd (upd (upd (upd H l1 (.lst [])) l2 (.lst [.ref ps])) t (.tup [.ref l1,.ref l2])) n (.lst [.ref t])=H4 at *
  clear n1 n2 n3 n4 hl1 hl2 ht hn
  have n5:=same_new (o:=.lst [.ref t]) hw
  have list1:LsAt WayAt (out (fun x=>S x\/x=w') (upd H4 w' (.lst [.ref t]))) n (waysM pls st 0):=list0.same' (out_fresh n5 hw)
  have open1:OpenL S w' (upd H4 w' (.lst [.ref t])) (allWays pls st 0):=by
   refine ⟨[t],upd_same,rfl,fun i p c x1 x2=>?_⟩
   match i,x1,x2 with
   | 0,x1,x2 =>
    cases x1
    cases x2
    exact way0.same (out_fresh n5 hw)
  have nSw:¬ S w':=fS s14 hw
  have hHw:H w'=none:=fresh_back s14 hw
  have sH5:=s14.trans n5
  generalize upd H4 w' (.lst [.ref t])=H5 at *
  clear n5 list0 way0 s14 hw
  have al:=fun k hk=>all_len (st:=st) h100 hpos k hk
  refine ⟨_,rfl,(most:Int),rfl,(by omega),(by omega),for_range (lo:=0) (n:=((most:Nat):Int).toNat)
   (fun i σ H'=>∃ (n:Addr) (v1 v2 v3:Option V),σ=[some (.ref pp),some (.ref ps),some (.int (most:Int)),some (.ref n),some (.ref w'),v1,v2,v3]/\Same H H'/\OpenL S w' H' (allWays pls st i)/\LsAt WayAt (out (fun x=>S x\/x=w') H') n (waysM pls st i))
   ⟨n,none,none,none,rfl,sH5,open1,list1⟩ ?_ ?_⟩
  ·rintro i σ H6 hi ⟨n,v1,v2,v3,rfl,s6,op6,ls6⟩
   have hi:i < most:=by omega
   refine ⟨(by show 0<=sizeLine; decide),fun L hL=>?_⟩
   have nL:=same_new (o:=.lst []) hL
   have nL':¬ (S L\/L=w'):=fun z=>by
    rcases z with z | z
    ·exact hSn L z (fresh_back s6 hL)
    ·obtain ⟨_,q,_⟩:=op6
     rw [z,q] at hL
     cases hL
   have op0:OpenL (fun x=>S x\/x=w') L (upd H6 L (.lst [])) (((waysM pls st i).take 0).flatMap (stepM pls)):=⟨[],upd_same,rfl,fun j p c x1 _=>by simp at x1⟩
   have aW:H6 w'≠none:=by
    obtain ⟨_,q,_⟩:=op6
    rw [q]
    exact fun z=>by cases z
   obtain ⟨xs,y1,y2,y3⟩:=ls6
   have y1':=(out_some.mp y1).2
   have part:∀ j,(((waysM pls st i).take j).flatMap (stepM pls)).length<=20000:=fun j=>by
    have e:waysM pls st (i+1)=((waysM pls st i).take j).flatMap (stepM pls) ++ ((waysM pls st i).drop j).flatMap (stepM pls):=by
     rw [← List.flatMap_append,List.take_append_drop]
     rfl
    have:=(al (i+1) (by omega)).1
    rw [e,List.length_append] at this
    omega
   refine ⟨_,rfl,n,rfl,⟨_,SqL.of (nL _ _ y1')⟩,for_list (K:=K) (a:=n) (xs:=xs.map V.ref)
    (fun j σ H'=>∃ v3:Option V,σ=[some (.ref pp),some (.ref ps),some (.int (most:Int)),some (.ref n),some (.ref w'),some (.int (0+(i:Int))),some (.ref L),v3]/\Same H6 H'/\OpenL (fun x=>S x\/x=w') L H' (((waysM pls st i).take j).flatMap (stepM pls)))
    ⟨_,rfl,nL,op0⟩ (fun j σ H' _ ⟨_,_,q,_⟩=>SqL.of (q _ _ y1')) ?_ ?_⟩
   ·rintro j x σ H8 hx ⟨v3,rfl,s8,opL⟩
    have hj:j < (waysM pls st i).length:=by
     have:=(List.getElem?_eq_some_iff.mp hx).1
     rw [List.length_map,y2] at this
     exact this
    have hj? : (waysM pls st i)[j]? = some (waysM pls st i)[j]:=List.getElem?_eq_getElem hj
    have hxj:xs[j]? = some (xs[j]'(by omega)):=List.getElem?_eq_getElem (by omega)
    have yw:=y3 j _ _ hxj hj?
    rw [List.getElem?_map,hxj] at hx
    cases hx
    have wl:=(waysL po bst i _ (List.getElem_mem hj)).ok (by omega)
    have aL:H8 L≠none:=by
     obtain ⟨_,q,_⟩:=opL
     rw [q]
     exact fun z=>by cases z
    have all:∀ x,((S x\/x=w')\/x=L)->H8 x≠none:=fun x z h0=>by
     rcases z with (z | z) | z
     ·exact hSn x z (fresh_back (s6.trans s8) h0)
     ·rw [z] at h0
      exact aW (fresh_back s8 h0)
     ·rw [z] at h0
      exact aL h0
    obtain ⟨_,qL,_⟩:=id opL
    refine ⟨_,rfl,.inl ⟨rfl,_,SqL.of qL⟩,_,rfl,_,rfl,fun x=>(S x\/x=w')\/x=L,pp,_,pls,_,rfl,all,hP.tp Tp.qd (s6.trans s8),yw.same (out_fresh s8 hL),wl,po,fun H9 r s9 hR hrn=>?_⟩
    obtain ⟨as,zs,g1,g2,g3,g4,g5⟩:=(opL.same s9).more hR
    refine ⟨L,r,as,zs,rfl,rfl,g1,g2,?_,_,rfl,upd_keep hL (s8.trans s9),?_⟩
    ·have:=part (j+1)
     rw [flat_take hj?,List.length_append] at this
     exact Nat.le_trans (show _<=20000 by omega) (by decide)
    ·rw [flat_take hj?]
     exact g5
   ·rintro σ H8 ⟨v3,rfl,s8,opL⟩
    rw [List.length_map,y2,List.take_length] at opL
    have lsL:=opL.close nL'
    obtain ⟨as,zs,g1,g2,g3,g4,g5⟩:=(op6.same s8).more lsL
    refine ⟨_,rfl,_,rfl,.inl ⟨rfl,_,SqL.of g1⟩,_,rfl,w',L,as,zs,rfl,rfl,g1,g2,?_,L,_,_,_,rfl,?_,g5,?_⟩
    ·have:=(al (i+1) (by omega)).2
     have e:(allWays pls st (i+1)).length=(allWays pls st i).length+(waysM pls st (i+1)).length:=by
      show (allWays pls st i ++ waysM pls st (i+1)).length=_
      rw [List.length_append]
     have e2:zs.length=(waysM pls st (i+1)).length:=g4
     exact Nat.le_trans (show _<=120000 by omega) (by decide)
    ·exact upd_keep hHw (s6.trans s8)
    ·exact lsL.same' (out_upd (S:=fun x=>S x\/x=w') (.inr rfl))
  ·rintro σ H6 ⟨n,v1,v2,v3,rfl,s6,op6,ls6⟩
   have e:((most:Nat):Int).toNat=most:=by omega
   rw [e] at op6
   exact ⟨_,rfl,k _ w' s6 (op6.close nSw)⟩
end
end Gn
namespace Gn
open PySem PySem.Spec PyProof.Rows L2 Lw
open PySem.W (Codec WData)
def plAt (pls:List Qd) (w:Nat):Qd:=pls.getD w (0,0,0,0)
theorem plAt_get {pls:List Qd} {w:Nat} (h:w < pls.length):pls[w]? = some (plAt pls w):=by
 unfold plAt
 rw [List.getD_eq_getElem?_getD,List.getElem?_eq_getElem h]
 rfl
theorem plAt_ok {pls:List Qd} {w:Nat} (po:PlsOk pls) (h:w < pls.length):PlOk (plAt pls w):=po.ok _ (List.mem_of_getElem? (plAt_get h))
def endsM (pls:List Qd):List Nat->Tri->List Tri
 | [],e=>[e]
 | w :: ws,e=>mirrorM (plAt pls w) ((endsM pls ws e).headD e) :: endsM pls ws e
theorem endsM_len (pls:List Qd) (e:Tri):∀ ws,(endsM pls ws e).length=ws.length+1
 | []=>rfl
 | w :: ws=>by
  show (endsM pls ws e).length+1=_
  rw [endsM_len pls e ws]
  rfl
theorem endsM_ne (pls:List Qd) (ws:List Nat) (e:Tri):endsM pls ws e≠[]:=fun h=>by
 have:=endsM_len pls e ws
 rw [h] at this
 simp at this
theorem endsM_bd {pls:List Qd} {e:Tri} (po:PlsOk pls) (he:Pb e 4095):∀ ws:List Nat,(∀ w∈ws,w < pls.length)->∀ q∈endsM pls ws e,Pb q (4095+16380*ws.length)
 | [],_,q,hq=>by
  have:q=e:=by simpa [endsM] using hq
  subst this
  exact he
 | w :: ws,h,q,hq=>by
  have ih:=endsM_bd po he ws fun x hx=>h x (List.mem_cons_of_mem _ hx)
  rcases List.mem_cons.mp hq with e1 | hq
  ·subst e1
   have hm:(endsM pls ws e).headD e∈endsM pls ws e:=by
    cases c:endsM pls ws e with
    | nil=>exact absurd c (endsM_ne pls ws e)
    | cons x l=>exact List.mem_cons_self ..
   exact (mirror_bd (plAt_ok po (h w (List.mem_cons_self ..))) (ih _ hm)).mono (by simp; omega)
  ·exact (ih q hq).mono (by rw [List.length_cons]; omega)
theorem endsM_last (pls:List Qd) (ws:List Nat) (e:Tri):lastT (endsM pls ws e).reverse=(endsM pls ws e).headD e:=by
 unfold lastT
 rw [List.getLastD_eq_getLast?,List.getLast?_reverse]
 cases c:endsM pls ws e with
 | nil=>exact absurd c (endsM_ne pls ws e)
 | cons x l=>rfl
theorem LsAt.push {α:Type} {R:Hp->Addr->α->Prop} (tp:Tp R) {H:Hp} {D p:Addr} {C:List α} {c:α} (h:LsAt R H D C) (r:R H p c):∃ xs,H D=some (.lst xs)/\xs.length=C.length/\LsAt R (upd H D (.lst (xs ++ [.ref p]))) D (C ++ [c]):=by
 obtain ⟨ps,h1,h2,h3⟩:=h
 refine ⟨_,h1,by rw [List.length_map,h2],?_⟩
 exact LsAt.snoc h2 (fun i q c' x y=>tp _ _ _ _ (h3 i q c' x y) (keep_lst h1)) (tp _ _ _ _ r (keep_lst h1)) upd_same
section
variable {P:Program} {w:World} {K:PySem.W.Frag} {mg:Str->Option Value} {base:Heap}
def spSeen (K:PySem.W.Frag):Sp:=fun vs H Q _=>∃ (pp pw pe:Addr) (pls:List Qd) (ws:List Nat) (e:Tri),vs=[.ref pp,.ref pw,.ref pe]/\LsAt QdAt H pp pls/\H pw=some (.lst (nV ws))/\TriAt H pe e/\PlsOk pls/\Pb e 4095/\ws.length<=4/\(∀ w∈ws,w < pls.length) /\
 ∀ H' r,Same H H'->LsAt TriAt H' r (endsM pls ws e)->Q (.ref r) H'
theorem sc_list_seen_ends:FnScope ["planes", "walls", "end", "ends", "wall"] ["planes", "walls", "end"] (defScope s_list_seen_ends):=⟨rfl,rfl,rfl,by decide +kernel,rfl,by decide +kernel,by decide +kernel⟩
theorem ok_list_seen_ends (F:At K mg "list_seen_ends" s_list_seen_ends ["planes", "walls", "end"]) (T:Txt mg) (D_mirror:Def P w K mg base "mirror" 2 ["plane", "point"] spMirror):Def P w K mg base "list_seen_ends" 3 ["planes", "walls", "end"] (spSeen K):=by
 refine F.ok sc_list_seen_ends (fun vs H Q E h=>?_) (fun f cdv A outer s H vs Q E hr h=>?_)
 ·obtain ⟨_,_,_,_,_,_,rfl,_⟩:=h
  rfl
 ·obtain ⟨pp,pw,pe,pls,ws,e,rfl,hP,hW,hE,po,be,h4,hlt,k⟩:=h
  have nd:=sc_list_seen_ends.nd
  refine ⟨_,(pss_cons (ps_set (i:=3) nd rfl (Or.inl rfl) (pe_lst (pa_cons (pv 2) pa_nil)))
   (pss_cons (ps_for PassesOwn.never rfl (pi_reversed (by rfl) T.b_reversed (pa_cons (pv 1) pa_nil)) (pg_name (i:=4) nd rfl (Or.inl rfl)) (pss_one (ps_expr (pe_bm PySem.F.plainAttrs_list PySem.F.slot_list_append PySem.F.type_list_append mt_append (pv 3) (pa_cons (pe_callD D_mirror hr (pa_cons (pe_ix ix_list (pv 0) (pv 4) (fun _ _=>rfl)) (pa_cons (pe_ix ix_list (pv 3) (pe_un un_neg pe_int) (fun _ _=>rfl)) pa_nil))) pa_nil)))))
   (pss_one (ps_ret (pe_listRev rfl (by rfl) T.b_list (by rfl) T.b_reversed (pa_cons (pv 3) pa_nil)))))),?_⟩
  refine ⟨_,rfl,(by show 1<=sizeLine; decide),fun D hD=>?_⟩
  have nD:=same_new (o:=.lst [.ref pe]) hD
  have ls0:LsAt TriAt (upd H D (.lst [.ref pe])) D (endsM pls (ws.drop (ws.length - 0)) e).reverse:=by
   rw [Nat.sub_zero,List.drop_length]
   refine ⟨[pe],upd_same,rfl,fun i p c x1 x2=>?_⟩
   match i,x1,x2 with
   | 0,x1,x2 =>
    cases x1
    cases x2
    exact nD _ _ hE
  have el:(nV ws).length=ws.length:=by unfold nV; rw [List.length_map]
  refine ⟨_,rfl,pw,_,rfl,SqL.of (nD _ _ hW),for_rev (K:=K) (a:=pw) (xs:=nV ws)
   (fun i σ H'=>∃ v1:Option V,σ=[some (.ref pp),some (.ref pw),some (.ref pe),some (.ref D),v1]/\Same H H'/\LsAt TriAt H' D (endsM pls (ws.drop (ws.length - i)) e).reverse)
   ⟨none,rfl,nD,ls0⟩ (fun i σ H' _ ⟨_,_,q,_⟩=>SqL.of (q _ _ hW)) ?_ ?_⟩
  ·rintro i x σ H1 hi hx ⟨v1,rfl,s1,ls⟩
   rw [el] at hi hx
   have hj:ws.length - 1 - i < ws.length:=by omega
   have hx':x=.int ((ws[ws.length - 1 - i]:Nat):Int):=by
    unfold nV at hx
    rw [List.getElem?_map,List.getElem?_eq_getElem hj] at hx
    exact (Option.some.inj hx).symm
   subst hx'
   have hwl:=hlt _ (List.getElem_mem hj)
   have dr:ws.drop (ws.length - (i+1))=ws[ws.length - 1 - i] :: ws.drop (ws.length - i):=by
    have e1:ws.length - (i+1)=ws.length - 1 - i:=by omega
    have e2:ws.length - i=ws.length - 1 - i+1:=by omega
    rw [e1,e2,List.drop_eq_getElem_cons hj]
   have sub:∀ z∈ws.drop (ws.length - i),z < pls.length:=fun z hz=>hlt z (List.mem_of_mem_drop hz)
   have lne:(endsM pls (ws.drop (ws.length - i)) e).reverse≠[]:=fun z=>endsM_ne pls _ e (List.reverse_eq_nil_iff.mp z)
   obtain ⟨xs,lp,k1,k2,k3,k4⟩:=ls.last lne
   have bl:Pb (lastT (endsM pls (ws.drop (ws.length - i)) e).reverse) 100000:=by
    have:=endsM_bd po be _ sub _ (List.mem_reverse.mp (last_mem lne))
    refine this.mono ?_
    rw [List.length_drop]
    omega
   obtain ⟨ys,pq,g1,g2,g3⟩:=ix_list_at (hP.tp Tp.qd s1) (plAt_get hwl)
   have hD1:=k1
   refine ⟨_,rfl,.inl ⟨rfl,_,SqL.of k1⟩,_,rfl,_,rfl,pp,_,_,_,rfl,rfl,SqL.of g1,g2,_,rfl,_,rfl,D,_,_,_,rfl,rfl,SqL.of k1,k3,pq,lp,_,_,rfl,g3,k4,plAt_ok po hwl,bl,fun H2 r s2 hr2 _=>?_⟩
   obtain ⟨zs,u1,u2,u3⟩:=(ls.tp Tp.tri s2).push Tp.tri hr2
   refine ⟨D,zs,_,rfl,rfl,u1,?_,_,rfl,upd_keep hD (s1.trans s2),?_⟩
   ·rw [u2,List.length_reverse,endsM_len,List.length_drop]
    exact Nat.lt_of_lt_of_le (show _ < 100 by omega) (by decide)
   ·rw [dr]
    show LsAt TriAt _ D (mirrorM _ _ :: _).reverse
    rw [List.reverse_cons,← endsM_last]
    exact u3
  ·rintro σ H1 ⟨v1,rfl,s1,ls⟩
   rw [el,Nat.sub_self,List.drop_zero] at ls
   obtain ⟨ps,h1,h2,h3⟩:=ls
   refine ⟨_,rfl,D,_,rfl,SqL.of h1,fun l hl=>?_⟩
   have nl:=same_new (o:=.lst (ps.map V.ref).reverse) hl
   refine k _ l (s1.trans nl) ⟨ps.reverse,by rw [List.map_reverse]; exact upd_same,by rw [List.length_reverse,h2,List.length_reverse],fun i p c x1 x2=>?_⟩
   have hi:i < ps.length:=by
    have:=(List.getElem?_eq_some_iff.mp x1).1
    rw [List.length_reverse] at this
    exact this
   rw [List.length_reverse] at h2
   rw [List.getElem?_reverse hi] at x1
   refine (h3 _ p c x1 ?_).same nl
   rw [List.getElem?_reverse (by omega),← x2]
   congr 1
   omega
end
end Gn
namespace Gn
open PySem PySem.Spec PyProof.Rows L2 Lw
open PySem.W (Codec WData)
def triAt (l:List Tri) (i:Nat):Tri:=l.getD i (0,0,0)
theorem triAt_get {l:List Tri} {i:Nat} (h:i < l.length):l[i]? = some (triAt l i):=by
 unfold triAt
 rw [List.getD_eq_getElem?_getD,List.getElem?_eq_getElem h]
 rfl
def natAt (l:List Nat) (i:Nat):Nat:=l.getD i 0
theorem natAt_get {l:List Nat} {i:Nat} (h:i < l.length):l[i]? = some (natAt l i):=by
 unfold natAt
 rw [List.getD_eq_getElem?_getD,List.getElem?_eq_getElem h]
 rfl
theorem nV_at {l:List Nat} {i:Nat} {x:V} (h:(nV l)[i]? = some x):i < l.length/\x=.int ((natAt l i:Nat):Int):=by
 have hi:i < l.length:=by
  have:=(List.getElem?_eq_some_iff.mp h).1
  unfold nV at this
  rw [List.length_map] at this
  exact this
 unfold nV at h
 rw [List.getElem?_map,natAt_get hi] at h
 exact ⟨hi,(Option.some.inj h).symm⟩
theorem nV_len (l:List Nat):(nV l).length=l.length:=by unfold nV; rw [List.length_map]
def htM (pls:List Qd) (ws:List Nat) (ss es:List Tri) (i:Nat):Int×Int:=(heightM (plAt pls (natAt ws i)) (triAt ss i),heightM (plAt pls (natAt ws i)) (triAt es (i+1)))
def htsM (pls:List Qd) (ws:List Nat) (ss es:List Tri):List (Int×Int):=(List.range ws.length).map (htM pls ws ss es)
theorem htsM_len (pls:List Qd) (ws:List Nat) (ss es:List Tri):(htsM pls ws ss es).length=ws.length:=by simp [htsM]
theorem htsM_at {pls:List Qd} {ws:List Nat} {ss es:List Tri} {i:Nat} (h:i < ws.length):(htsM pls ws ss es)[i]? = some (htM pls ws ss es i):=by
 unfold htsM
 rw [List.getElem?_map,List.getElem?_range h]
 rfl
section
variable {P:Program} {w:World} {K:PySem.W.Frag} {mg:Str->Option Value} {base:Heap}
def spHeights (K:PySem.W.Frag):Sp:=fun vs H Q _=>∃ (pp pw ps pe:Addr) (pls:List Qd) (ws:List Nat) (ss es:List Tri),vs=[.ref pp,.ref pw,.ref ps,.ref pe]/\LsAt QdAt H pp pls/\H pw=some (.lst (nV ws))/\LsAt TriAt H ps ss/\LsAt TriAt H pe es/\PlsOk pls/\ws.length<=4/\(∀ w∈ws,w < pls.length)/\ss.length=ws.length+1/\es.length=ws.length+1/\(∀ q∈ss,Pb q 100000)/\(∀ q∈es,Pb q 100000) /\
 ∀ H' r,Same H H'->LsAt PrAt H' r (htsM pls ws ss es)->Q (.ref r) H'
theorem sc_list_heights:FnScope ["planes", "walls", "starts", "ends", "turn", "wall"] ["planes", "walls", "starts", "ends"] (defScope s_list_heights):=⟨rfl,rfl,rfl,by decide +kernel,rfl,by decide +kernel,by decide +kernel⟩
theorem ok_list_heights (F:At K mg "list_heights" s_list_heights ["planes", "walls", "starts", "ends"]) (T:Txt mg) (D_measure_height:Def P w K mg base "measure_height" 1 ["plane", "point"] spHeight):Def P w K mg base "list_heights" 2 ["planes", "walls", "starts", "ends"] (spHeights K):=by
 refine F.ok sc_list_heights (fun vs H Q E h=>?_) (fun f cdv A outer s H vs Q E hr h=>?_)
 ·obtain ⟨_,_,_,_,_,_,_,_,rfl,_⟩:=h
  rfl
 ·obtain ⟨pp,pw,ps,pe,pls,ws,ss,es,rfl,hP,hW,hS,hE,po,h4,hlt,ls,le,bs,be,k⟩:=h
  have nd:=sc_list_heights.nd
  refine ⟨_,(pss_one (ps_ret (pe_lc rfl nd (pi_enum (by rfl) T.b_enumerate (pa_cons (pv 1) pa_nil)) (blkOk_by (own:=[("turn",4),("wall",5)]) (by show blkC ["planes", "walls", "starts", "ends", "turn", "wall"] (defScope s_list_heights) _ _=true; decide +kernel)) (fun _ _ _ _ _=>(show PG _ _ (gTup K 2 _) from (pg_tup rfl (pgs_cons (pg_name (i:=4) nd rfl (Or.inl rfl)) (pgs_cons (pg_name (i:=5) nd rfl (Or.inl rfl)) pgs_nil))))) (fun _ _ _ _ _=>pts_nil) (fun _ _ _ _ _=>(pe_tup (pa_cons (pe_callD D_measure_height hr (pa_cons (pe_ix (show IxR _ (rIxL K) from ix_list) (pv 0) (pv 5) (fun _ _=>rfl)) (pa_cons (pe_ix (show IxR _ (rIxL K) from ix_list) (pv 2) (pv 4) (fun _ _=>rfl)) pa_nil))) (pa_cons (pe_callD D_measure_height hr (pa_cons (pe_ix (show IxR _ (rIxL K) from ix_list) (pv 0) (pv 5) (fun _ _=>rfl)) (pa_cons (pe_ix (show IxR _ (rIxL K) from ix_list) (pv 3) (pe_op op_add (pv 4) pe_int) (fun _ _=>rfl)) pa_nil))) pa_nil))))))),?_⟩
  refine ⟨_,rfl,pw,_,rfl,SqL.of hW,fun D hD=>lc_enum (K:=K) (a:=pw) (xs:=nV ws) (Built PrAt H D (htsM pls ws ss es)) (built0 hD) (fun i H' _ q=>SqL.of (q.1 _ _ hW)) ?_ ?_⟩
  ·rintro i x H1 T1 hx b hT1
   obtain ⟨hi,rfl⟩:=nV_at hx
   have nT:=same_new (o:=.tup [.int (i:Nat),.int ((natAt ws i:Nat):Int)]) hT1
   have s1:=b.1.trans nT
   have hwl:=hlt _ (List.mem_of_getElem? (natAt_get hi))
   obtain ⟨ys,pq,g1,g2,g3⟩:=ix_list_at hP (plAt_get hwl)
   obtain ⟨xs1,p1,k1,k2,k3⟩:=ix_list_at hS (triAt_get (l:=ss) (i:=i) (by omega))
   obtain ⟨xs2,p2,m1,m2,m3⟩:=ix_list_at hE (triAt_get (l:=es) (i:=i+1) (by omega))
   have ok:=plAt_ok po hwl
   refine ⟨T1,_,rfl,SqT.of upd_same,rfl,_,_,rfl,_,_,rfl,rfl,rfl,?_⟩
   refine ⟨_,rfl,_,rfl,pp,_,_,_,rfl,rfl,SqL.of (s1 _ _ g1),g2,_,rfl,_,rfl,ps,_,_,_,rfl,rfl,SqL.of (s1 _ _ k1),k2,pq,p1,_,_,rfl,g3.same s1,k3.same s1,ok,bs _ (List.mem_of_getElem? (triAt_get (by omega))),fun H2 s2=>?_⟩
   have s12:=s1.trans s2
   refine ⟨_,rfl,_,rfl,pp,_,_,_,rfl,rfl,SqL.of (s12 _ _ g1),g2,_,rfl,_,rfl,_,_,rfl,rfl,pe,_,_,_,rfl,rfl,SqL.of (s12 _ _ m1),m2,pq,p2,_,_,rfl,g3.same s12,m3.same s12,ok,be _ (List.mem_of_getElem? (triAt_get (by omega))),fun H3 s3=>?_⟩
   refine ⟨(by show 2<=sizeLine; decide),fun t ht=>?_⟩
   exact Built.step Tp.pr hD (htsM_at hi) (by rw [htsM_len]; exact Nat.le_trans h4 (by decide)) b (nT.trans (s2.trans (s3.trans (same_new ht)))) upd_same
  ·intro H1 b
   have e:(nV ws).length=(htsM pls ws ss es).length:=by rw [nV_len,htsM_len]
   rw [e] at b
   exact k _ D b.1 b.done
theorem cut1 {xs:List V}:cutV xs (some 1) none=xs.drop 1:=by
 unfold cutV HT.sIx
 simp only [show ¬ ((1:Int) < 0) by decide,if_false]
 cases xs with
 | nil=>rfl
 | cons x l =>
  have:min (1:Int).toNat (x :: l).length=1:=by simp
  rw [this]
  exact List.take_of_length_le (by simp)
def prAt (l:List (Int×Int)) (i:Nat):Int×Int:=l.getD i (0,0)
theorem prAt_get {l:List (Int×Int)} {i:Nat} (h:i < l.length):l[i]? = some (prAt l i):=by
 unfold prAt
 rw [List.getD_eq_getElem?_getD,List.getElem?_eq_getElem h]
 rfl
def orderM (hs:List (Int×Int)):Prop:=(∀ i,i < hs.length->0 < (prAt hs i).2)/\∀ i,i+1 < hs.length->(prAt hs i).1*(prAt hs (i+1)).2 < (prAt hs (i+1)).1*(prAt hs i).2
def spOrder (K:PySem.W.Frag):Sp:=fun vs H Q _=>∃ (p:Addr) (hs:List (Int×Int)),vs=[.ref p]/\LsAt PrAt H p hs/\hs.length<=4/\(∀ i,(prAt hs i).1.natAbs<=1000000/\(prAt hs i).2.natAbs<=1000000)/\∀ v H',(v=true↔orderM hs)->Same H H'->Q (.bl v) H'
theorem sc_are_in_order:FnScope ["heights", "before", "behind", "earlier", "later"] ["heights"] (defScope s_are_in_order):=⟨rfl,rfl,rfl,by decide +kernel,rfl,by decide +kernel,by decide +kernel⟩
theorem ok_are_in_order (F:At K mg "are_in_order" s_are_in_order ["heights"]) (T:Txt mg):Def P w K mg base "are_in_order" 1 ["heights"] (spOrder K):=by
 refine F.ok sc_are_in_order (fun vs H Q E h=>?_) (fun f cdv A outer s H vs Q E hr h=>?_)
 ·obtain ⟨_,_,rfl,_⟩:=h
  rfl
 · obtain ⟨p, hs, rfl, hL, h4, hb, k⟩ := h
   have nd:=sc_are_in_order.nd
   obtain ⟨ps,g1,g2,g3⟩:=hL.item
   have pl:(ps.map V.ref).length=hs.length:=by rw [List.length_map,g2]
   refine ⟨_,(pss_cons (ps_if (pt_val (pe_callB (cr_any rfl) (by rfl) T.b_any bt_any (pa_cons (pe_lc rfl nd (pi_list (pv 0)) (blkOk_by (own:=[("before",1),("behind",2)]) (by show blkC ["heights", "before", "behind", "earlier", "later"] (defScope s_are_in_order) _ _=true; decide +kernel)) (fun _ _ _ _ _=>(show PG _ _ (gTup K 2 _) from (pg_tup rfl (pgs_cons (pg_name (i:=1) nd rfl (Or.inl rfl)) (pgs_cons (pg_name (i:=2) nd rfl (Or.inl rfl)) pgs_nil))))) (fun _ _ _ _ _=>pts_nil) (fun _ _ _ _ _=>(pe_cmpR op_le (pv 2) pe_int (nomark _)))) pa_nil))) (pss_one (ps_ret pe_bl)) pss_nil)
     (pss_one (ps_ret (pe_callB (cr_all rfl) (by rfl) T.b_all bt_all (pa_cons (pe_lc rfl nd (pi_zip (by rfl) T.b_zip (pa_cons (pv 0) (pa_cons (pe_slice sl_list (pv 0) (po_some pe_int) po_none) pa_nil))) (blkOk_by (own:=[("earlier",3),("later",4)]) (by show blkC ["heights", "before", "behind", "earlier", "later"] (defScope s_are_in_order) _ _=true; decide +kernel)) (fun _ _ _ _ _=>(show PG _ _ (gTup K 2 _) from (pg_tup rfl (pgs_cons (pg_name (i:=3) nd rfl (Or.inl rfl)) (pgs_cons (pg_name (i:=4) nd rfl (Or.inl rfl)) pgs_nil))))) (fun _ _ _ _ _=>pts_nil) (fun _ _ _ _ _=>(pe_cmpR op_lt (pe_op op_mulB (pe_ix (show IxR _ (rIxT K) from ix_tup) (pv 3) pe_int (fun _ _=>rfl)) (pe_ix (show IxR _ (rIxT K) from ix_tup) (pv 4) pe_int (fun _ _=>rfl))) (pe_op op_mulB (pe_ix (show IxR _ (rIxT K) from ix_tup) (pv 4) pe_int (fun _ _=>rfl)) (pe_ix (show IxR _ (rIxT K) from ix_tup) (pv 3) pe_int (fun _ _=>rfl))) (nomark _)))) pa_nil))))),?_⟩
   refine ⟨_,rfl,p,rfl,⟨_,SqL.of g1⟩,fun D hD=>lc_mapL (K:=K) (a:=p) (xs:=ps.map V.ref) (ys:=((List.range hs.length).map fun i=>decide ((prAt hs i).2<=0)).map V.bl) hD (by simp [g2]) (by simp; exact Nat.le_trans h4 (by decide)) (SqL.of g1) ?_ ?_⟩
   · intro i x y H1 R N hx hy s1 hR
     have hi:i < hs.length:=by rw [← pl]; exact (List.getElem?_eq_some_iff.mp hx).1
     obtain ⟨q,e1,e2⟩:=g3 i _ (prAt_get hi)
     rw [e1] at hx
     cases hx
     have hy:=bls_at hi hy
     subst hy
     exact ⟨q,_,rfl,SqT.of (s1 _ _ e2),rfl,_,_,rfl,_,_,rfl,rfl,rfl,_,rfl,_,_,rfl,rfl,hR _ (Same.refl H1)⟩
   · intro H1 s1 hD1
     refine ⟨D,_,rfl,SqL.of hD1,_,rfl,ite2 (fun c=>?_) (fun c=>?_)⟩
     · rw [any_map] at c
       obtain ⟨i,hi,e⟩:=c
       have e:(prAt hs i).2<=0:=by simpa using e
       exact k _ _ (no_iff fun z=>absurd (z.1 i hi) (by omega)) s1
     · rw [any_map] at c
       have pos:∀ i,i < hs.length->0 < (prAt hs i).2:=fun i hi=>by
         have:¬ (prAt hs i).2<=0:=fun z=>c ⟨i,hi,by simpa using z⟩
         omega
       refine ⟨_,rfl,_,rfl,_,rfl,p,_,rfl,SqL.of (s1 _ _ g1),fun l2 hl2=>?_⟩
       rw [cut1]
       have n2:=same_new (o:=.lst ((ps.map V.ref).drop 1)) hl2
       have s2:=s1.trans n2
       have dl:((ps.map V.ref).drop 1).length=hs.length - 1:=by rw [List.length_drop,pl]
       refine ⟨p,l2,_,_,rfl,SqL.of (s2 _ _ g1),SqL.of upd_same,fun D2 hD2=>lc_mapZ (K:=K) (a:=p) (b:=l2) (xs:=ps.map V.ref) (zs:=(ps.map V.ref).drop 1) (ys:=((List.range (hs.length - 1)).map fun i=>decide ((prAt hs i).1*(prAt hs (i+1)).2 < (prAt hs (i+1)).1*(prAt hs i).2)).map V.bl) hD2 (by rw [dl,pl]; simp) (by simp; exact Nat.le_trans h4 (by decide)) (SqL.of (s2 _ _ g1)) (SqL.of upd_same) ?_ ?_⟩
       · intro i x z y H3 T3 R N hx hz hy s3 hT3 hR
         have hi:i < hs.length - 1:=by rw [← dl]; exact (List.getElem?_eq_some_iff.mp hz).1
         obtain ⟨q,e1,e2⟩:=g3 i _ (prAt_get (by omega))
         obtain ⟨q',e3,e4⟩:=g3 (i+1) _ (prAt_get (by omega))
         rw [e1] at hx
         rw [List.getElem?_drop,Nat.add_comm 1 i,e3] at hz
         cases hx
         cases hz
         have hy:=bls_at hi hy
         subst hy
         have n3:=same_new (o:=.tup [.ref q,.ref q']) hT3
         have s23:=s2.trans (s3.trans n3)
         have f1:=s23 _ _ e2
         have f2:=s23 _ _ e4
         have b1:=hb i
         have b2:=hb (i+1)
         refine ⟨T3,_,rfl,SqT.of upd_same,rfl,_,_,rfl,_,_,rfl,rfl,rfl,?_⟩
         refine ⟨_,rfl,q,_,_,_,rfl,rfl,SqT.of f1,rfl,_,rfl,q',_,_,_,rfl,rfl,SqT.of f2,rfl,_,_,rfl,rfl,mulOk (m:=20) (n:=20) (by omega) (by omega) (by decide),?_⟩
         exact ⟨_,rfl,q',_,_,_,rfl,rfl,SqT.of f2,rfl,_,rfl,q,_,_,_,rfl,rfl,SqT.of f1,rfl,_,_,rfl,rfl,mulOk (m:=20) (n:=20) (by omega) (by omega) (by decide),_,_,rfl,rfl,hR _ n3⟩
       · intro H3 s3 hD3
         refine ⟨D2,_,rfl,SqL.of hD3,k _ _ ?_ (s2.trans s3)⟩
         rw [all_map]
         unfold orderM
         constructor
         · intro z
           exact ⟨pos,fun i hi=>by simpa using z i (by omega)⟩
         · intro z i hi
           simpa using z.2 i (by omega)
def partM (s e:Tri) (h:Int×Int):Qd:=(s.1*h.2+e.1*h.1,s.2.1*h.2+e.2.1*h.1,s.2.2*h.2+e.2.2*h.1,h.1+h.2)
def spPart:Sp:=fun vs H Q _=>∃ (ps pe ph:Addr) (s e:Tri) (h:Int×Int),vs=[.ref ps,.ref pe,.ref ph]/\TriAt H ps s/\TriAt H pe e/\PrAt H ph h/\Pb s 100000/\Pb e 100000/\h.1.natAbs<=1000000/\h.2.natAbs<=1000000/\∀ H' r,Same H H'->QdAt H' r (partM s e h)->Q (.ref r) H'
theorem sc_part_way:FnScope ["start", "end", "heights", "before", "behind"] ["start", "end", "heights"] (defScope s_part_way):=⟨rfl,rfl,rfl,by decide +kernel,rfl,by decide +kernel,by decide +kernel⟩
theorem ok_part_way (F:At K mg "part_way" s_part_way ["start", "end", "heights"]) (T:Txt mg):Def P w K mg base "part_way" 1 ["start", "end", "heights"] spPart:=by
 refine F.ok sc_part_way (fun vs H Q E h=>?_) (fun f cdv A outer s H vs Q E hr h=>?_)
 ·obtain ⟨_,_,_,_,_,_,rfl,_⟩:=h
  rfl
 ·obtain ⟨ps,pe,ph,st,e,h,rfl,hs,he,hh,bs,be,b1,b2,k⟩:=h
  have nd:=sc_part_way.nd
  have mk:∀ {x y:Int},x.natAbs<=100000->y.natAbs<=1000000->CMulB x y:=fun h1 h2=>mulOk (m:=17) (n:=20) (by omega) (by omega) (by decide)
  refine ⟨_,(pss_cons (ps_set (i:=3) nd rfl (Or.inl rfl) (pe_ix ix_tup (pv 2) pe_int (fun _ _=>rfl)))
   (pss_cons (ps_set (i:=4) nd rfl (Or.inl rfl) (pe_ix ix_tup (pv 2) pe_int (fun _ _=>rfl)))
   (pss_one (ps_ret (pe_tup (pa_cons (pe_op op_add (pe_op op_mulB (pe_ix ix_tup (pv 0) pe_int (fun _ _=>rfl)) (pv 4)) (pe_op op_mulB (pe_ix ix_tup (pv 1) pe_int (fun _ _=>rfl)) (pv 3))) (pa_cons (pe_op op_add (pe_op op_mulB (pe_ix ix_tup (pv 0) pe_int (fun _ _=>rfl)) (pv 4)) (pe_op op_mulB (pe_ix ix_tup (pv 1) pe_int (fun _ _=>rfl)) (pv 3))) (pa_cons (pe_op op_add (pe_op op_mulB (pe_ix ix_tup (pv 0) pe_int (fun _ _=>rfl)) (pv 4)) (pe_op op_mulB (pe_ix ix_tup (pv 1) pe_int (fun _ _=>rfl)) (pv 3))) (pa_cons (pe_op op_add (pv 3) (pv 4)) pa_nil))))))))),?_⟩
  refine ⟨_,rfl,ph,_,_,_,rfl,rfl,SqT.of hh,rfl,_,rfl,ph,_,_,_,rfl,rfl,SqT.of hh,rfl,?_⟩
  refine ⟨_,rfl,ps,_,_,_,rfl,rfl,SqT.of hs,rfl,_,rfl,_,_,rfl,rfl,mk bs.1 b2,_,rfl,pe,_,_,_,rfl,rfl,SqT.of he,rfl,_,rfl,_,_,rfl,rfl,mk be.1 b1,_,_,rfl,rfl,?_⟩
  refine ⟨_,rfl,ps,_,_,_,rfl,rfl,SqT.of hs,rfl,_,rfl,_,_,rfl,rfl,mk bs.2.1 b2,_,rfl,pe,_,_,_,rfl,rfl,SqT.of he,rfl,_,rfl,_,_,rfl,rfl,mk be.2.1 b1,_,_,rfl,rfl,?_⟩
  refine ⟨_,rfl,ps,_,_,_,rfl,rfl,SqT.of hs,rfl,_,rfl,_,_,rfl,rfl,mk bs.2.2 b2,_,rfl,pe,_,_,_,rfl,rfl,SqT.of he,rfl,_,rfl,_,_,rfl,rfl,mk be.2.2 b1,_,_,rfl,rfl,?_⟩
  exact ⟨_,rfl,_,rfl,_,_,rfl,rfl,(by show 4<=sizeLine; decide),fun r hr=>k _ r (same_new hr) upd_same⟩
end
end Gn
namespace Gn
open PySem PySem.Spec PyProof.Rows L2 Lw
open PySem.W (Codec WData)
def PxAt (H:Hp) (p:Addr) (c:Tri):Prop:=H p=some (.tup [.int c.1,.int c.2.1])
theorem Tp.px:Tp PxAt:=fun _ _ _ _ h k=>k _ _ h
theorem PxAt.xy {H:Hp} {p:Addr} {c:Tri} (h:PxAt H p c):XyAt H p c:=⟨_,h⟩
theorem px_cs {H:Hp} {a:Addr} {C:List Tri} (h:LsAt PxAt H a C):CsAt H a C:=by
 obtain ⟨ps,h1,h2,h3⟩:=h
 exact ⟨ps,h1,h2,fun i p c e1 e2=>(h3 i p c e1 e2).xy⟩
def enl (c:Tri) (k:Int):Tri:=(c.1*k,c.2.1*k,0)
def enlM (C:List Tri) (k:Int):List Tri:=C.map fun c=>enl c k
theorem enlM_len (C:List Tri) (k:Int):(enlM C k).length=C.length:=by simp [enlM]
theorem enlM_at {C:List Tri} {k:Int} (h:C≠[]) (i:Nat):atC (enlM C k) i=enl (atC C i) k:=by
 have hp:0 < C.length:=List.length_pos_iff.mpr h
 have hi:i % C.length < C.length:=Nat.mod_lt _ hp
 unfold atC
 rw [enlM_len]
 unfold enlM
 rw [List.getD_eq_getElem?_getD,List.getElem?_map,List.getElem?_eq_getElem hi,List.getD_eq_getElem?_getD,List.getElem?_eq_getElem hi]
 rfl
theorem enlM_ne {C:List Tri} {k:Int} (h:C≠[]):enlM C k≠[]:=by simpa [enlM] using h
theorem mul_le {a b:Int} {m n:Nat} (ha:a.natAbs<=m) (hb:b.natAbs<=n):(a*b).natAbs<=m*n:=by
 rw [Int.natAbs_mul]
 exact Nat.mul_le_mul ha hb
def kBig:Nat:=4000000000000
theorem enlM_bd {C:List Tri} {k:Int} (h:∀ j,B12 (atC C j)) (hne:C≠[]) (hk:k.natAbs<=kBig):∀ c∈enlM C k,Bd c:=by
 intro c hc
 obtain ⟨i,hi,e⟩:=List.getElem_of_mem hc
 have e2:=enlM_at (C:=C) (k:=k) hne i
 have hi':i < C.length:=by rw [← enlM_len C k]; exact hi
 have e3:atC (enlM C k) i=c:=by
  have:=atC_get hi
  rw [List.getElem?_eq_getElem hi,e] at this
  exact (Option.some.inj this).symm
 rw [← e3,e2]
 have b:=h i
 unfold B12 at b
 have m1:=mul_le (a:=(atC C i).1) (b:=k) (m:=4095) (by omega) hk
 have m2:=mul_le (a:=(atC C i).2.1) (b:=k) (m:=4095) (by omega) hk
 unfold kBig at m1 m2
 exact ⟨by show ((atC C i).1*k).natAbs<=_; omega,by show ((atC C i).2.1*k).natAbs<=_; omega⟩
section
variable {P:Program} {w:World} {K:PySem.W.Frag} {mg:Str->Option Value} {base:Heap}
def spEnlarge (K:PySem.W.Frag):Sp:=fun vs H Q _=>∃ (a:Addr) (C:List Tri) (k:Int),vs=[.ref a,.int k]/\CsAt H a C/\C.length < 1000/\(∀ c∈C,Bd c)/\k.natAbs<=kBig/\∀ H' p,Same H H'->LsAt PxAt H' p (enlM C k)->Q (.ref p) H'
theorem sc_enlarge:FnScope ["corners", "whole", "corner"] ["corners", "whole"] (defScope s_enlarge):=⟨rfl,rfl,rfl,by decide +kernel,rfl,by decide +kernel,by decide +kernel⟩
theorem ok_enlarge (F:At K mg "enlarge" s_enlarge ["corners", "whole"]) (T:Txt mg):Def P w K mg base "enlarge" 1 ["corners", "whole"] (spEnlarge K):=by
 refine F.ok sc_enlarge (fun vs H Q E h=>?_) (fun f cdv A outer s H vs Q E hr h=>?_)
 ·obtain ⟨_,_,_,rfl,_⟩:=h
  rfl
 ·obtain ⟨a,C,m,rfl,hC,hl,hb,hm,k⟩:=h
  have nd:=sc_enlarge.nd
  obtain ⟨ps,g1,g2,g3⟩:=LsAt.item hC
  refine ⟨_,(pss_one (ps_ret (pe_lc rfl nd (pi_list (pv 0)) (blkOk_by (own:=[("corner",2)]) (by show blkC ["corners", "whole", "corner"] (defScope s_enlarge) _ _=true; decide +kernel)) (fun _ _ _ _ _=>(pg_name (i:=2) nd rfl (Or.inl rfl))) (fun _ _ _ _ _=>pts_nil) (fun _ _ _ _ _=>(pe_tup (pa_cons (pe_op op_mulB (pe_ix (show IxR _ (rIxT K) from ix_tup) (pv 2) pe_int (fun _ _=>rfl)) (pv 1)) (pa_cons (pe_op op_mulB (pe_ix (show IxR _ (rIxT K) from ix_tup) (pv 2) pe_int (fun _ _=>rfl)) (pv 1)) pa_nil))))))),?_⟩
  refine ⟨_,rfl,a,rfl,⟨_,SqL.of g1⟩,fun D hD=>lc_list (K:=K) (a:=a) (xs:=ps.map V.ref) (Built PxAt H D (enlM C m)) (built0 hD) (fun i H' _ q=>SqL.of (q.1 _ _ g1)) ?_ ?_⟩
  ·intro i x H1 hx b
   have hi:i < C.length:=by
    have:=(List.getElem?_eq_some_iff.mp hx).1
    rw [List.length_map,g2] at this
    exact this
   obtain ⟨q,e1,⟨r,e2⟩⟩:=g3 i _ (List.getElem?_eq_getElem hi)
   rw [e1] at hx
   cases hx
   have bc:=hb _ (List.getElem_mem hi)
   have f:=b.1 _ _ e2
   have mk:∀ {z:Int},z.natAbs<=2 ^ 63->CMulB z m:=fun h=>mulOk (m:=64) (n:=64) (by omega) (by unfold kBig at hm; omega) (by decide)
   refine ⟨rfl,_,rfl,q,_,_,_,rfl,rfl,SqT.of f,at0,_,rfl,_,_,rfl,rfl,mk bc.1,?_⟩
   refine ⟨_,rfl,q,_,_,_,rfl,rfl,SqT.of f,at1,_,rfl,_,_,rfl,rfl,mk bc.2,(by show 2<=sizeLine; decide),fun t ht=>?_⟩
   refine Built.step Tp.px hD (c:=enl C[i] m) ?_ ?_ b (same_new ht) upd_same
   ·unfold enlM
    rw [List.getElem?_map,List.getElem?_eq_getElem hi]
    rfl
   ·rw [enlM_len]
    exact Nat.le_trans (Nat.le_of_lt hl) (by decide)
  ·intro H1 b
   have e:(ps.map V.ref).length=(enlM C m).length:=by rw [List.length_map,g2,enlM_len]
   rw [e] at b
   exact k _ D b.1 b.done
def spEnds2:Sp:=fun vs H Q _=>∃ (a:Addr) (C:List Tri) (i:Nat),vs=[.ref a,.int (i:Int)]/\LsAt PxAt H a C/\C≠[]/\∀ H' p p1 p2,Same H H'->H' p=some (.tup [.ref p1,.ref p2])->PxAt H' p1 (atC C i)->PxAt H' p2 (atC C (i+1))->Q (.ref p) H'
theorem ok_find_ends2 (F:At K mg "find_ends" s_find_ends ["corners", "line"]) (T:Txt mg):Def P w K mg base "find_ends" 1 ["corners", "line"] spEnds2:=by
 refine F.ok sc_find_ends (fun vs H Q E h=>?_) (fun f cdv A outer s H vs Q E hr h=>?_)
 ·obtain ⟨a,C,i,rfl,_⟩:=h
  rfl
 ·obtain ⟨a,C,i,rfl,hC,hne,k⟩:=h
  have nd:=sc_find_ends.nd
  obtain ⟨ps,h1,h2,h3⟩:=hC.len
  obtain ⟨p1,e1,t1⟩:=h3 i hne
  obtain ⟨p2,e2,t2⟩:=h3 (i+1) hne
  have hp:(0:Int) < (((ps.map V.ref).length:Nat):Int):=by
   have:=List.length_pos_iff.mpr hne
   omega
  rw [← h2] at e1 e2
  refine ⟨_,(pss_one (ps_ret (pe_tup (pa_cons (pe_ix ix_list (pv 0) (pe_op op_mod (pv 1) (pe_callB call_len_seq (by rfl) T.b_len bt_len (pa_cons (pv 0) pa_nil))) (fun _ _=>rfl)) (pa_cons (pe_ix ix_list (pv 0) (pe_op op_mod (pe_op op_add (pv 1) pe_int) (pe_callB call_len_seq (by rfl) T.b_len bt_len (pa_cons (pv 0) pa_nil))) (fun _ _=>rfl)) pa_nil))))),?_⟩
  refine ⟨_,rfl,_,rfl,_,rfl,a,_,rfl,.inl (SqL.of h1),_,_,rfl,rfl,hp,a,_,_,_,rfl,rfl,SqL.of h1,atI_mod e1,?_⟩
  refine ⟨_,rfl,_,rfl,_,_,rfl,rfl,_,rfl,a,_,rfl,.inl (SqL.of h1),_,_,rfl,rfl,hp,a,_,_,_,rfl,rfl,SqL.of h1,atI_mod (i:=i+1) e2,?_⟩
  refine ⟨(by show 2<=sizeLine; decide),fun p hp=>?_⟩
  have sn:=same_new (o:=HO.tup [.ref p1,.ref p2]) hp
  exact k _ p p1 p2 sn upd_same (sn _ _ t1) (sn _ _ t2)
def xyOf (q:Qd):Tri:=(q.1,q.2.1,0)
def openM (ns:List Int) (w:Nat) (q:Qd):Prop:=if (trisOf ns).length<=w then withinM (enlM (trisOf ns) q.2.2.2) (xyOf q)
 else (meetM (enl (atC (trisOf ns) w) q.2.2.2) (enl (atC (trisOf ns) (w+1)) q.2.2.2) (xyOf q) (xyOf q)/\¬ xyOf q=enl (atC (trisOf ns) w) q.2.2.2/\¬ xyOf q=enl (atC (trisOf ns) (w+1)) q.2.2.2)/\0 < q.2.2.1/\q.2.2.1 < ns.getD 0 0*q.2.2.2
structure Qb (q:Qd):Prop where
 x:q.1.natAbs<=200000000000
 y:q.2.1.natAbs<=200000000000
 w:q.2.2.2.natAbs<=2000000
def spOpen (K:PySem.W.Frag):Sp:=fun vs H Q _=>∃ (a pq:Addr) (ns:List Int) (w:Nat) (q:Qd),vs=[.ref a,.int (w:Int),.ref pq]/\SqL K H a (ns.map V.int)/\RoomOk ns/\QdAt H pq q/\Qb q/\w < 1000/\∀ v H',(v=true↔openM ns w q)->Same H H'->Q (.bl v) H'
theorem Qb.bd {q:Qd} (h:Qb q):Bd (xyOf q):=⟨by show q.1.natAbs<=_; have:=h.x; omega,by show q.2.1.natAbs<=_; have:=h.y; omega⟩
theorem eqv_px {x y u v:Int}:PyData.eqv (.tuple [.int x,.int y]) (.tuple [.int u,.int v])=(decide (x=u) && decide (y=v)):=by
 simp only [PyData.eqv,PyData.eqvAll,Bool.and_true]
 rfl
theorem sc_is_in_open_wall:FnScope ["room", "wall", "point", "corners", "place", "line", "is_between"] ["room", "wall", "point"] (defScope s_is_in_open_wall):=⟨rfl,rfl,rfl,by decide +kernel,rfl,by decide +kernel,by decide +kernel⟩
theorem ok_is_in_open_wall (F:At K mg "is_in_open_wall" s_is_in_open_wall ["room", "wall", "point"]) (T:Txt mg) (D_list_corners:Def P w K mg base "list_corners" 1 ["room"] (spCorners K)) (D_enlarge:Def P w K mg base "enlarge" 1 ["corners", "whole"] (spEnlarge K)) (D_is_within:Def P w K mg base "is_within" 4 ["corners", "point"] spWithin)
  (D_find_ends:Def P w K mg base "find_ends" 1 ["corners", "line"] spEnds2) (D_lines_meet:Def P w K mg base "lines_meet" 3 ["first", "second"] spMeet):Def P w K mg base "is_in_open_wall" 5 ["room", "wall", "point"] (spOpen K):=by
 refine F.ok sc_is_in_open_wall (fun vs H Q E h=>?_) (fun f cdv A outer s H vs Q E hr h=>?_)
 ·obtain ⟨_,_,_,_,_,rfl,_⟩:=h
  rfl
 ·obtain ⟨a,pq,ns,wl,q,rfl,hS,ro,hq,qb,hw,k⟩:=h
  have nd:=sc_is_in_open_wall.nd
  have l3:12<=ns.length:=by have:=ro.len.2.1; omega
  have tl:=tris_lt ro.len3
  have tne:=tris_ne ro.len
  have bw:=qb.w
  have ebd:=enlM_bd ro.b12 tne (k:=q.2.2.2) (by unfold kBig; omega)
  refine ⟨_,(pss_cons (ps_set (i:=3) nd rfl (Or.inl rfl) (pe_callD D_enlarge hr (pa_cons (pe_callD D_list_corners hr (pa_cons (pv 0) pa_nil)) (pa_cons (pe_ix ix_tup (pv 2) pe_int (fun _ _=>rfl)) pa_nil))))
   (pss_cons (ps_set (i:=4) nd rfl (Or.inl rfl) (pe_tup (pa_cons (pe_ix ix_tup (pv 2) pe_int (fun _ _=>rfl)) (pa_cons (pe_ix ix_tup (pv 2) pe_int (fun _ _=>rfl)) pa_nil))))
   (pss_cons (ps_if (pt_cmpR op_ge (pv 1) (pe_callB call_len_seq (by rfl) T.b_len bt_len (pa_cons (pv 3) pa_nil)) (nomark _)) (pss_one (ps_ret (pe_callD D_is_within hr (pa_cons (pv 3) (pa_cons (pv 4) pa_nil))))) pss_nil)
   (pss_cons (ps_set (i:=5) nd rfl (Or.inl rfl) (pe_callD D_find_ends hr (pa_cons (pv 3) (pa_cons (pv 1) pa_nil))))
   (pss_cons (ps_set (i:=6) nd rfl (Or.inl rfl) (pe_and (pe_callD D_lines_meet hr (pa_cons (pv 5) (pa_cons (pe_tup (pa_cons (pv 4) (pa_cons (pv 4) pa_nil))) pa_nil))) (pe_one (pe_cmpR (op_notInD hr.units) (pv 4) (pv 5) (by with_unfolding_all rfl)))))
   (pss_one (ps_ret (pe_and (pv 6) (pe_one (pe_chain op_lt op_lt pe_int (pe_ix ix_tup (pv 2) pe_int (fun _ _=>rfl)) (pe_op op_mulB (pe_ix ix_list (pv 0) pe_int (fun _ _=>rfl)) (pe_ix ix_tup (pv 2) pe_int (fun _ _=>rfl))))))))))))),?_⟩
  refine ⟨_,rfl,a,ns,rfl,hS,ro.len.1,(by omega),ro.len3,fun H1 pc s1 hC=>?_⟩
  refine ⟨_,rfl,pq,_,_,_,rfl,rfl,SqT.of (s1 _ _ hq),rfl,pc,trisOf ns,_,rfl,hC.cs,tl,tris_bd ro.bd,(by unfold kBig; omega),fun H2 pe s2 hX=>?_⟩
  have s12:=s1.trans s2
  have hq2:=s12 _ _ hq
  refine ⟨_,rfl,pq,_,_,_,rfl,rfl,SqT.of hq2,rfl,_,rfl,pq,_,_,_,rfl,rfl,SqT.of hq2,rfl,(by show 2<=sizeLine; decide),fun pp hpp=>?_⟩
  have n3:=same_new (o:=.tup [.int q.1,.int q.2.1]) hpp
  have s13:=s12.trans n3
  have hX3:=hX.tp Tp.px n3
  have hP3:PxAt (upd H2 pp (.tup [.int q.1,.int q.2.1])) pp (xyOf q):=upd_same
  generalize upd H2 pp (.tup [.int q.1,.int q.2.1])=H3 at *
  obtain ⟨es,e1,e2,_⟩:=hX3.len
  rw [enlM_len] at e2
  refine ⟨_,rfl,_,rfl,pe,_,rfl,.inl (SqL.of e1),_,_,rfl,rfl,_,rfl,ite2 (fun c=>?_) (fun c=>?_)⟩
  ·have c:(trisOf ns).length<=wl:=by
    have c:(((es.map V.ref).length:Nat):Int)<=(wl:Int):=by simpa using c
    omega
   refine ⟨_,rfl,_,rfl,pe,pp,_,_,rfl,px_cs hX3,enlM_ne tne,(by rw [enlM_len]; exact tl),ebd,hP3.xy,qb.bd,fun v H4 hv s4=>k _ _ ?_ (s13.trans s4)⟩
   unfold openM
   rw [if_pos c]
   exact hv
  ·have c:¬ (trisOf ns).length<=wl:=by
    have c:¬ (((es.map V.ref).length:Nat):Int)<=(wl:Int):=by simpa using c
    omega
   refine ⟨_,rfl,_,rfl,pe,_,wl,rfl,hX3,enlM_ne tne,fun H4 pl p1 p2 s4 hl h1 h2=>?_⟩
   have b1:=atC_bd ebd wl
   have b2:=atC_bd ebd (wl+1)
   rw [enlM_at tne] at h1 h2 b1 b2
   unfold openM at k
   rw [if_neg c] at k
   refine ⟨_,rfl,_,rfl,_,rfl,(by show 2<=sizeLine; decide),fun t ht=>?_⟩
   have n5:=same_new (o:=.tup [.ref pp,.ref pp]) ht
   have s45:=s4.trans n5
   have s15:=s13.trans s45
   refine ⟨pl,t,_,_,_,_,rfl,⟨p1,p2,n5 _ _ hl,⟨_,n5 _ _ h1⟩,⟨_,n5 _ _ h2⟩⟩,⟨pp,pp,upd_same,⟨_,s45 _ _ hP3⟩,⟨_,s45 _ _ hP3⟩⟩,b1,b2,qb.bd,qb.bd,fun v H6 hv s6=>⟨_,rfl,?_⟩⟩
   have s16:=s15.trans s6
   have d1:∀ {p:Addr} {c:Tri},PxAt H6 p c->Dp K H6 (.ref p) (.tuple [.int c.1,.int c.2.1]):=fun h=>.tup (SqT.of h) (.cons (.int _) (.cons (.int _) .nil))
   have g1:PxAt H6 p1 (enl (atC (trisOf ns) wl) q.2.2.2):=s6 _ _ (n5 _ _ h1)
   have g2:PxAt H6 p2 (enl (atC (trisOf ns) (wl+1)) q.2.2.2):=s6 _ _ (n5 _ _ h2)
   have g3:PxAt H6 pp (xyOf q):=s6 _ _ (s45 _ _ hP3)
   have g4:=s6 _ _ (n5 _ _ hl)
   cases v with
   | false =>
    have nv:¬ meetM (enl (atC (trisOf ns) wl) q.2.2.2) (enl (atC (trisOf ns) (wl+1)) q.2.2.2) (xyOf q) (xyOf q):=fun z=>by
     have:=hv.mpr z
     cases this
    refine iteF ⟨_,rfl,_,rfl,iteF (k _ _ (no_iff fun z=>nv z.1.1) s16)⟩
   | true =>
    have yv:=hv.mp rfl
    refine iteT ⟨_,rfl,_,rfl,_,_,d1 g3,.tup (SqT.of g4) (.cons (d1 g1) (.cons (d1 g2) .nil)),rfl,rfl,?_,?_⟩
    ·show max (max 0 (max 0 0)+1) (max (max 0 (max 0 0)+1) 0)<=60
     decide
    have hh:(0 < ns.length):=by omega
    have bo:=qb.w
    have hd:=ro.head
    have eqx:∀ c:Tri,c.2.2=0->(PyData.eqv (.tuple [.int c.1,.int c.2.1]) (.tuple [.int (xyOf q).1,.int (xyOf q).2.1])=true↔xyOf q=c):=fun c hc=>by
     rw [eqv_px]
     obtain ⟨c1,c2,c3⟩:=c
     simp only at hc
     subst hc
     simp only [xyOf,Bool.and_eq_true,Prod.mk.injEq,and_true]
     constructor
     ·rintro ⟨e1,e2⟩
      exact ⟨(of_decide_eq_true e1).symm,(of_decide_eq_true e2).symm⟩
     ·rintro ⟨e1,e2⟩
      exact ⟨decide_eq_true e1.symm,decide_eq_true e2.symm⟩
    have eb:(!List.any [PyData.tuple [.int (enl (atC (trisOf ns) wl) q.2.2.2).1,.int (enl (atC (trisOf ns) wl) q.2.2.2).2.1],.tuple [.int (enl (atC (trisOf ns) (wl+1)) q.2.2.2).1,.int (enl (atC (trisOf ns) (wl+1)) q.2.2.2).2.1]] fun z=>PyData.eqv z (.tuple [.int (xyOf q).1,.int (xyOf q).2.1]))=true↔(¬ xyOf q=enl (atC (trisOf ns) wl) q.2.2.2/\¬ xyOf q=enl (atC (trisOf ns) (wl+1)) q.2.2.2):=by
     rw [← eqx _ rfl,← eqx _ rfl]
     simp only [List.any_cons,List.any_nil,Bool.or_false,Bool.not_eq_true',Bool.or_eq_false_iff]
     constructor
     ·rintro ⟨z1,z2⟩
      exact ⟨by rw [z1]; decide,by rw [z2]; decide⟩
     ·rintro ⟨z1,z2⟩
      exact ⟨by simpa using z1,by simpa using z2⟩
    generalize (!List.any [PyData.tuple [.int (enl (atC (trisOf ns) wl) q.2.2.2).1,.int (enl (atC (trisOf ns) wl) q.2.2.2).2.1],.tuple [.int (enl (atC (trisOf ns) (wl+1)) q.2.2.2).1,.int (enl (atC (trisOf ns) (wl+1)) q.2.2.2).2.1]] fun z=>PyData.eqv z (.tuple [.int (xyOf q).1,.int (xyOf q).2.1]))=bb at eb ⊢
    cases bb with
    | false =>
     refine ⟨_,rfl,_,rfl,iteF (k _ _ (no_iff fun z=>?_) s16)⟩
     have:=eb.mpr z.1.2
     cases this
    | true =>
     have ne:=eb.mp rfl
     refine ⟨_,rfl,_,rfl,iteT ?_⟩
     have hq6:=s16 _ _ hq
     refine ⟨_,rfl,pq,_,_,_,rfl,rfl,SqT.of hq6,rfl,_,_,rfl,rfl,_,rfl,ite2 (fun c1=>?_) (fun c1=>?_)⟩
     ·have c1:0 < q.2.2.1:=by simpa using c1
      refine ⟨_,rfl,a,_,_,_,rfl,rfl,s16.seq hS,at_int (i:=0) rfl hh,_,rfl,pq,_,_,_,rfl,rfl,SqT.of hq6,rfl,_,_,rfl,rfl,mulOk (m:=13) (n:=30) (by omega) (by omega) (by decide),_,_,rfl,rfl,k _ _ ?_ s16⟩
      constructor
      ·intro z
       exact ⟨⟨yv,ne⟩,c1,by simpa using z⟩
      ·intro z
       simpa using z.2.2
     ·exact k _ _ (no_iff fun z=>c1 (by simpa using z.2.1)) s16
end
end Gn
namespace Gn
open PySem PySem.Spec PyProof.Rows L2 Lw
open PySem.W (Codec WData)
section
variable {P:Program} {w:World} {K:PySem.W.Frag} {mg:Str->Option Value} {base:Heap}
def cutM (a b c d:Tri):Prop:=side a b c*side a b d < 0/\side c d a*side c d b<=0
def spCuts:Sp:=fun vs H Q _=>∃ (pl pg:Addr) (a b c d:Tri),vs=[.ref pl,.ref pg]/\EndsAt H pl a b/\EndsAt H pg c d/\Bd a/\Bd b/\Bd c/\Bd d/\∀ v H',(v=true↔cutM a b c d)->Same H H'->Q (.bl v) H'
theorem sc_cuts_leg:FnScope ["line", "leg"] ["line", "leg"] (defScope s_cuts_leg):=⟨rfl,rfl,rfl,by decide +kernel,rfl,by decide +kernel,by decide +kernel⟩
theorem ok_cuts_leg (F:At K mg "cuts_leg" s_cuts_leg ["line", "leg"]) (T:Txt mg) (D_find_side:Def P w K mg base "find_side" 1 ["start", "end", "point"] spSide) (D_reaches_across:Def P w K mg base "reaches_across" 2 ["first", "second"] spAcross):Def P w K mg base "cuts_leg" 3 ["line", "leg"] spCuts:=by
 refine F.ok sc_cuts_leg (fun vs H Q E h=>?_) (fun f cdv A outer s H vs Q E hr h=>?_)
 ·obtain ⟨_,_,_,_,_,_,rfl,_⟩:=h
  rfl
 ·obtain ⟨pf,ps,a,b,c,d,rfl,⟨q1,q2,ef,ha,hb⟩,⟨q3,q4,es,hc,hd⟩,ba,bb,bc,bd,k⟩:=h
  have nd:=sc_cuts_leg.nd
  refine ⟨_,(pss_one (ps_ret (pe_and (pe_cmpR op_lt (pe_op op_mulB (pe_callD D_find_side hr (pa_cons (pe_ix ix_tup (pv 0) pe_int (fun _ _=>rfl)) (pa_cons (pe_ix ix_tup (pv 0) pe_int (fun _ _=>rfl)) (pa_cons (pe_ix ix_tup (pv 1) pe_int (fun _ _=>rfl)) pa_nil)))) (pe_callD D_find_side hr (pa_cons (pe_ix ix_tup (pv 0) pe_int (fun _ _=>rfl)) (pa_cons (pe_ix ix_tup (pv 0) pe_int (fun _ _=>rfl)) (pa_cons (pe_ix ix_tup (pv 1) pe_int (fun _ _=>rfl)) pa_nil))))) pe_int (nomark _)) (pe_one (pe_callD D_reaches_across hr (pa_cons (pv 1) (pa_cons (pv 0) pa_nil))))))),?_⟩
  refine ⟨_,rfl,pf,_,_,_,rfl,rfl,SqT.of ef,rfl,_,rfl,pf,_,_,_,rfl,rfl,SqT.of ef,rfl,_,rfl,ps,_,_,_,rfl,rfl,SqT.of es,rfl,q1,q2,q3,a,b,c,rfl,ha,hb,hc,ba,bb,bc,fun H1 s1=>?_⟩
  have ef1:=s1 _ _ ef
  have es1:=s1 _ _ es
  refine ⟨_,rfl,pf,_,_,_,rfl,rfl,SqT.of ef1,rfl,_,rfl,pf,_,_,_,rfl,rfl,SqT.of ef1,rfl,_,rfl,ps,_,_,_,rfl,rfl,SqT.of es1,rfl,q1,q2,q4,a,b,d,rfl,ha.same s1,hb.same s1,hd.same s1,ba,bb,bd,fun H2 s2=>?_⟩
  have s12:=s1.trans s2
  refine ⟨_,_,rfl,rfl,mulOk (side_bd ba bb bc) (side_bd ba bb bd) (by decide),_,_,rfl,rfl,_,rfl,ite2 (fun g=>?_) (fun g=>?_)⟩
  ·have g:side a b c*side a b d < 0:=by simpa using g
   refine ⟨_,rfl,_,rfl,ps,pf,c,d,a,b,rfl,⟨q3,q4,s12 _ _ es,hc.same s12,hd.same s12⟩,⟨q1,q2,s12 _ _ ef,ha.same s12,hb.same s12⟩,bc,bd,ba,bb,fun v H3 hv s3=>k _ _ ?_ (s12.trans s3)⟩
   rw [hv]
   exact ⟨fun z=>⟨g,z⟩,fun z=>z.2⟩
  ·exact k _ _ (no_iff fun z=>g (by simpa using z.1)) s12
def legA (s e:Qd):Tri:=(s.1*e.2.2.2,s.2.1*e.2.2.2,0)
def clearM (C:List Tri) (s e:Qd):Prop:=∀ i,i < C.length->¬ cutM (enl (atC C i) (s.2.2.2*e.2.2.2)) (enl (atC C (i+1)) (s.2.2.2*e.2.2.2)) (legA s e) (legA e s)
theorem legA_bd {s e:Qd} (hs:Qb s) (he:Qb e):Bd (legA s e):=by
 have m1:=mul_le hs.x he.w
 have m2:=mul_le hs.y he.w
 exact ⟨by show (s.1*e.2.2.2).natAbs<=_; omega,by show (s.2.1*e.2.2.2).natAbs<=_; omega⟩
def spClear:Sp:=fun vs H Q _=>∃ (a ps pe:Addr) (C:List Tri) (s e:Qd),vs=[.ref a,.ref ps,.ref pe]/\CsAt H a C/\C≠[]/\C.length < 1000/\(∀ c∈C,Bd c)/\(∀ j,B12 (atC C j))/\QdAt H ps s/\QdAt H pe e/\Qb s/\Qb e/\∀ v H',(v=true↔clearM C s e)->Same H H'->Q (.bl v) H'
theorem sc_is_clear:FnScope ["corners", "start", "end", "leg", "enlarged", "line"] ["corners", "start", "end"] (defScope s_is_clear):=⟨rfl,rfl,rfl,by decide +kernel,rfl,by decide +kernel,by decide +kernel⟩
theorem ok_is_clear (F:At K mg "is_clear" s_is_clear ["corners", "start", "end"]) (T:Txt mg) (D_enlarge:Def P w K mg base "enlarge" 1 ["corners", "whole"] (spEnlarge K)) (D_find_ends:Def P w K mg base "find_ends" 1 ["corners", "line"] spEnds) (D_cuts_leg:Def P w K mg base "cuts_leg" 3 ["line", "leg"] spCuts):Def P w K mg base "is_clear" 4 ["corners", "start", "end"] spClear:=by
 classical
 refine F.ok sc_is_clear (fun vs H Q E h=>?_) (fun f cdv A outer s H vs Q E hr h=>?_)
 ·obtain ⟨_,_,_,_,_,_,rfl,_⟩:=h
  rfl
 ·obtain ⟨a,ps,pe,C,st,en,rfl,hC,hne,hl,hb,hb12,hs,he,qs,qe,k⟩:=h
  have nd:=sc_is_clear.nd
  have mk:∀ {q r:Qd} {z:Int},Qb q->Qb r->(z=q.1\/z=q.2.1\/z=q.2.2.2)->CMulB z r.2.2.2:=fun {q r z} h1 h2 h3=>mulOk (m:=40) (n:=30) (by
   have a1:=h1.x
   have a2:=h1.y
   have a3:=h1.w
   rcases h3 with rfl | rfl | rfl <;> omega) (by have:=h2.w; omega) (by decide)
  have kb:(st.2.2.2*en.2.2.2).natAbs<=kBig:=by
   have:=mul_le qs.w qe.w
   unfold kBig
   omega
  have ebd:=enlM_bd hb12 hne kb
  refine ⟨_,(pss_cons (ps_set (i:=3) nd rfl (Or.inr rfl) (pe_tup (pa_cons (pe_tup (pa_cons (pe_op op_mulB (pe_ix ix_tup (pv 1) pe_int (fun _ _=>rfl)) (pe_ix ix_tup (pv 2) pe_int (fun _ _=>rfl))) (pa_cons (pe_op op_mulB (pe_ix ix_tup (pv 1) pe_int (fun _ _=>rfl)) (pe_ix ix_tup (pv 2) pe_int (fun _ _=>rfl))) pa_nil))) (pa_cons (pe_tup (pa_cons (pe_op op_mulB (pe_ix ix_tup (pv 2) pe_int (fun _ _=>rfl)) (pe_ix ix_tup (pv 1) pe_int (fun _ _=>rfl))) (pa_cons (pe_op op_mulB (pe_ix ix_tup (pv 2) pe_int (fun _ _=>rfl)) (pe_ix ix_tup (pv 1) pe_int (fun _ _=>rfl))) pa_nil))) pa_nil))))
   (pss_cons (ps_set (i:=4) nd rfl (Or.inr rfl) (pe_callD D_enlarge hr (pa_cons (pv 0) (pa_cons (pe_op op_mulB (pe_ix ix_tup (pv 1) pe_int (fun _ _=>rfl)) (pe_ix ix_tup (pv 2) pe_int (fun _ _=>rfl))) pa_nil))))
   (pss_one (ps_ret (pe_not (pe_callB (cr_any rfl) (by rfl) T.b_any bt_any (pa_cons (pe_lc rfl nd (pi_range1 (by rfl) T.b_range (pa_cons (pe_callB call_len_seq (by rfl) T.b_len bt_len (pa_cons (pv 4) pa_nil)) pa_nil)) (blkOk_by (own:=[("line",5)]) (by show blkC ["corners", "start", "end", "leg", "enlarged", "line"] (defScope s_is_clear) _ _=true; decide +kernel)) (fun _ _ _ _ _=>(pg_name (i:=5) nd rfl (Or.inl rfl))) (fun _ _ _ _ _=>pts_nil) (fun _ _ _ _ _=>(pe_callD D_cuts_leg hr (pa_cons (pe_callD D_find_ends hr (pa_cons (pv 4) (pa_cons (pv 5) pa_nil))) (pa_cons (pv 3) pa_nil))))) pa_nil))))))),?_⟩
  refine ⟨_,rfl,ps,_,_,_,rfl,rfl,SqT.of hs,rfl,_,rfl,pe,_,_,_,rfl,rfl,SqT.of he,rfl,_,_,rfl,rfl,mk qs qe (.inl rfl),?_⟩
  refine ⟨_,rfl,ps,_,_,_,rfl,rfl,SqT.of hs,rfl,_,rfl,pe,_,_,_,rfl,rfl,SqT.of he,rfl,_,_,rfl,rfl,mk qs qe (.inr (.inl rfl)),(by show 2<=sizeLine; decide),fun t1 ht1=>?_⟩
  have n1:=same_new (o:=.tup [.int (st.1*en.2.2.2),.int (st.2.1*en.2.2.2)]) ht1
  have hs1:=n1 _ _ hs
  have he1:=n1 _ _ he
  refine ⟨_,rfl,pe,_,_,_,rfl,rfl,SqT.of he1,rfl,_,rfl,ps,_,_,_,rfl,rfl,SqT.of hs1,rfl,_,_,rfl,rfl,mk qe qs (.inl rfl),?_⟩
  refine ⟨_,rfl,pe,_,_,_,rfl,rfl,SqT.of he1,rfl,_,rfl,ps,_,_,_,rfl,rfl,SqT.of hs1,rfl,_,_,rfl,rfl,mk qe qs (.inr (.inl rfl)),(by show 2<=sizeLine; decide),fun t2 ht2=>?_⟩
  have n2:=same_new (o:=.tup [.int (en.1*st.2.2.2),.int (en.2.1*st.2.2.2)]) ht2
  refine ⟨(by show 2<=sizeLine; decide),fun t3 ht3=>?_⟩
  have n3:=same_new (o:=.tup [.ref t1,.ref t2]) ht3
  have leg:EndsAt (upd (upd (upd H t1 (.tup [.int (st.1*en.2.2.2),.int (st.2.1*en.2.2.2)])) t2 (.tup [.int (en.1*st.2.2.2),.int (en.2.1*st.2.2.2)])) t3 (.tup [.ref t1,.ref t2])) t3 (legA st en) (legA en st) :=
   ⟨t1,t2,upd_same,⟨_,n3 _ _ (n2 _ _ upd_same)⟩,⟨_,n3 _ _ upd_same⟩⟩
  have s3:=n1.trans (n2.trans n3)
  generalize upd (upd (upd H t1 (.tup [.int (st.1*en.2.2.2),.int (st.2.1*en.2.2.2)])) t2 (.tup [.int (en.1*st.2.2.2),.int (en.2.1*st.2.2.2)])) t3 (.tup [.ref t1,.ref t2])=H3 at *
  have hs3:=s3 _ _ hs
  have he3:=s3 _ _ he
  refine ⟨_,rfl,_,rfl,ps,_,_,_,rfl,rfl,SqT.of hs3,rfl,_,rfl,pe,_,_,_,rfl,rfl,SqT.of he3,rfl,_,_,rfl,rfl,mk qs qe (.inr (.inr rfl)),a,C,_,rfl,hC.same s3,hl,hb,kb,fun H4 px s4 hX=>?_⟩
  obtain ⟨es,e1,e2,_⟩:=hX.len
  rw [enlM_len] at e2
  have s34:=s3.trans s4
  refine ⟨_,rfl,px,_,rfl,.inl (SqL.of e1),_,rfl,(by omega),(by omega),fun D hD=>lc_mapR (lo:=0) (n:=(((es.map V.ref).length:Nat):Int).toNat) (ys:=((List.range C.length).map fun i=>decide (cutM (enl (atC C i) (st.2.2.2*en.2.2.2)) (enl (atC C (i+1)) (st.2.2.2*en.2.2.2)) (legA st en) (legA en st))).map V.bl) hD (by simp at e2 ⊢; omega) (by simp; exact Nat.le_trans (Nat.le_of_lt hl) (by decide)) ?_ ?_⟩
  ·intro i y H5 R N hi hy s5 hR
   have ei:(0:Int)+(i:Int)=(i:Int):=by omega
   rw [ei]
   have hi:i < C.length:=by omega
   have hy:=bls_at hi hy
   subst hy
   refine ⟨rfl,_,rfl,_,rfl,px,_,i,rfl,px_cs (hX.tp Tp.px s5),enlM_ne hne,fun H6 pl s6 hE=>⟨_,rfl,pl,t3,_,_,_,_,rfl,hE,leg.same (s4.trans (s5.trans s6)),atC_bd ebd _,atC_bd ebd _,legA_bd qs qe,legA_bd qe qs,fun v H7 hv s7=>?_⟩⟩
   rw [enlM_at hne,enlM_at hne] at hv
   rw [bl_of hv]
   exact hR _ (s6.trans s7)
  ·intro H5 s5 hD5
   refine ⟨D,_,rfl,SqL.of hD5,_,rfl,k _ _ ?_ (s34.trans s5)⟩
   rw [Bool.not_eq_true',← Bool.not_eq_true,any_map]
   unfold clearM
   constructor
   ·intro z i hi c
    exact z ⟨i,hi,by simpa using c⟩
   ·rintro z ⟨i,hi,c⟩
    exact z i hi (by simpa using c)
def qAt (l:List Qd) (i:Nat):Qd:=l.getD i (0,0,0,0)
theorem qAt_get {l:List Qd} {i:Nat} (h:i < l.length):l[i]? = some (qAt l i):=by
 unfold qAt
 rw [List.getD_eq_getElem?_getD,List.getElem?_eq_getElem h]
 rfl
def isPathM (ns:List Int) (ws:List Nat) (pts:List Qd):Prop:=(∀ i,i < ws.length->openM ns (natAt ws i) (qAt pts (i+1)))/\∀ i,i+1 < pts.length->clearM (trisOf ns) (qAt pts i) (qAt pts (i+1))
def spIsPath (K:PySem.W.Frag):Sp:=fun vs H Q _=>∃ (a pw pp:Addr) (ns:List Int) (ws:List Nat) (pts:List Qd),vs=[.ref a,.ref pw,.ref pp]/\SqL K H a (ns.map V.int)/\RoomOk ns/\H pw=some (.lst (nV ws))/\LsAt QdAt H pp pts/\ws.length<=4/\pts.length=ws.length+2/\(∀ w∈ws,w < 1000)/\(∀ q∈pts,Qb q)/\∀ v H',(v=true↔isPathM ns ws pts)->Same H H'->Q (.bl v) H'
theorem sc_is_path:FnScope ["room", "walls", "points", "turn", "wall", "corners", "point", "after"] ["room", "walls", "points"] (defScope s_is_path):=⟨rfl,rfl,rfl,by decide +kernel,rfl,by decide +kernel,by decide +kernel⟩
theorem ok_is_path (F:At K mg "is_path" s_is_path ["room", "walls", "points"]) (T:Txt mg) (D_is_in_open_wall:Def P w K mg base "is_in_open_wall" 5 ["room", "wall", "point"] (spOpen K)) (D_list_corners:Def P w K mg base "list_corners" 1 ["room"] (spCorners K)) (D_is_clear:Def P w K mg base "is_clear" 4 ["corners", "start", "end"] spClear):Def P w K mg base "is_path" 6 ["room", "walls", "points"] (spIsPath K):=by
 classical
 refine F.ok sc_is_path (fun vs H Q E h=>?_) (fun f cdv A outer s H vs Q E hr h=>?_)
 ·obtain ⟨_,_,_,_,_,_,rfl,_⟩:=h
  rfl
 ·obtain ⟨a,pw,pp,ns,ws,pts,rfl,hS,ro,hW,hP,h4,hpl,hwl,hqb,k⟩:=h
  have nd:=sc_is_path.nd
  have l3:12<=ns.length:=by have:=ro.len.2.1; omega
  obtain ⟨ps,g1,g2,g3⟩:=hP.item
  have pl:(ps.map V.ref).length=pts.length:=by rw [List.length_map,g2]
  refine ⟨_,(pss_cons (ps_if (pt_not (pt_val (pe_callB (cr_all rfl) (by rfl) T.b_all bt_all (pa_cons (pe_lc rfl nd (pi_enum (by rfl) T.b_enumerate (pa_cons (pv 1) pa_nil)) (blkOk_by (own:=[("turn",3),("wall",4)]) (by show blkC ["room", "walls", "points", "turn", "wall", "corners", "point", "after"] (defScope s_is_path) _ _=true; decide +kernel)) (fun _ _ _ _ _=>(show PG _ _ (gTup K 2 _) from (pg_tup rfl (pgs_cons (pg_name (i:=3) nd rfl (Or.inl rfl)) (pgs_cons (pg_name (i:=4) nd rfl (Or.inl rfl)) pgs_nil))))) (fun _ _ _ _ _=>pts_nil) (fun _ _ _ _ _=>(pe_callD D_is_in_open_wall hr (pa_cons (pv 0) (pa_cons (pv 4) (pa_cons (pe_ix (show IxR _ (rIxL K) from ix_list) (pv 2) (pe_op op_add (pv 3) pe_int) (fun _ _=>rfl)) pa_nil)))))) pa_nil)))) (pss_one (ps_ret pe_bl)) pss_nil)
   (pss_cons (ps_set (i:=5) nd rfl (Or.inr rfl) (pe_callD D_list_corners hr (pa_cons (pv 0) pa_nil)))
   (pss_one (ps_ret (pe_callB (cr_all rfl) (by rfl) T.b_all bt_all (pa_cons (pe_lc rfl nd (pi_zip (by rfl) T.b_zip (pa_cons (pv 2) (pa_cons (pe_slice sl_list (pv 2) (po_some pe_int) po_none) pa_nil))) (blkOk_by (own:=[("point",6),("after",7)]) (by show blkC ["room", "walls", "points", "turn", "wall", "corners", "point", "after"] (defScope s_is_path) _ _=true; decide +kernel)) (fun _ _ _ _ _=>(show PG _ _ (gTup K 2 _) from (pg_tup rfl (pgs_cons (pg_name (i:=6) nd rfl (Or.inl rfl)) (pgs_cons (pg_name (i:=7) nd rfl (Or.inl rfl)) pgs_nil))))) (fun _ _ _ _ _=>pts_nil) (fun _ _ _ _ _=>(pe_callD D_is_clear hr (pa_cons (pv 5) (pa_cons (pv 6) (pa_cons (pv 7) pa_nil)))))) pa_nil)))))),?_⟩
  refine ⟨_,rfl,pw,_,rfl,SqL.of hW,fun D hD=>lc_mapE (K:=K) (a:=pw) (xs:=nV ws) (ys:=((List.range ws.length).map fun i=>decide (openM ns (natAt ws i) (qAt pts (i+1)))).map V.bl) hD (by simp [nV_len]) (by simp; exact Nat.le_trans h4 (by decide)) (SqL.of hW) ?_ ?_⟩
  ·intro i x y H1 T1 R N hx hy s1 hT1 hR
   obtain ⟨hi,rfl⟩:=nV_at hx
   have hy:=bls_at hi hy
   subst hy
   have nT:=same_new (o:=.tup [.int (i:Nat),.int ((natAt ws i:Nat):Int)]) hT1
   have s2:=s1.trans nT
   obtain ⟨q,e1,e2⟩:=g3 (i+1) _ (qAt_get (by omega))
   refine ⟨T1,_,rfl,SqT.of upd_same,rfl,_,_,rfl,_,_,rfl,rfl,rfl,?_⟩
   refine ⟨_,rfl,_,rfl,_,rfl,_,rfl,_,_,rfl,rfl,pp,_,_,_,rfl,rfl,SqL.of (s2 _ _ g1),atI_eq (i:=i+1) (by omega) e1,a,q,ns,natAt ws i,_,rfl,s2.seq hS,ro,e2.same s2,hqb _ (List.mem_of_getElem? (qAt_get (by omega))),hwl _ (List.mem_of_getElem? (natAt_get hi)),fun v H3 hv s3=>?_⟩
   rw [bl_of hv]
   exact hR _ (nT.trans s3)
  ·intro H1 s1 hD1
   refine ⟨D,_,rfl,SqL.of hD1,_,rfl,?_⟩
   generalize hbb:(((List.range ws.length).map fun i=>decide (openM ns (natAt ws i) (qAt pts (i+1)))).all id)=bb
   cases bb with
   | false =>
    refine k _ _ (no_iff fun z=>?_) s1
    have:(((List.range ws.length).map fun i=>decide (openM ns (natAt ws i) (qAt pts (i+1)))).all id)=true:=all_map.mpr fun i hi=>by simpa using z.1 i hi
    rw [hbb] at this
    cases this
   | true =>
    have op:∀ i,i < ws.length->openM ns (natAt ws i) (qAt pts (i+1)):=fun i hi=>by simpa using all_map.mp hbb i hi
    refine ⟨_,rfl,a,ns,rfl,s1.seq hS,ro.len.1,(by omega),ro.len3,fun H2 pc s2 hC=>?_⟩
    have s12:=s1.trans s2
    refine ⟨_,rfl,_,rfl,_,rfl,pp,_,rfl,SqL.of (s12 _ _ g1),fun l2 hl2=>?_⟩
    rw [cut1]
    have n2:=same_new (o:=.lst ((ps.map V.ref).drop 1)) hl2
    have s3:=s12.trans n2
    have dl:((ps.map V.ref).drop 1).length=pts.length - 1:=by rw [List.length_drop,pl]
    refine ⟨pp,l2,_,_,rfl,SqL.of (s3 _ _ g1),SqL.of upd_same,fun D2 hD2=>lc_mapZ (K:=K) (a:=pp) (b:=l2) (xs:=ps.map V.ref) (zs:=(ps.map V.ref).drop 1) (ys:=((List.range (pts.length - 1)).map fun i=>decide (clearM (trisOf ns) (qAt pts i) (qAt pts (i+1)))).map V.bl) hD2 (by rw [dl,pl]; simp) (by simp; exact Nat.le_trans (show _<=6 by omega) (by decide)) (SqL.of (s3 _ _ g1)) (SqL.of upd_same) ?_ ?_⟩
    ·intro i x z y H4 T4 R N hx hz hy s4 hT4 hR
     have hi:i < pts.length - 1:=by rw [← dl]; exact (List.getElem?_eq_some_iff.mp hz).1
     obtain ⟨q,e1,e2⟩:=g3 i _ (qAt_get (by omega))
     obtain ⟨q',e3,e4⟩:=g3 (i+1) _ (qAt_get (by omega))
     rw [e1] at hx
     rw [List.getElem?_drop,Nat.add_comm 1 i,e3] at hz
     cases hx
     cases hz
     have hy:=bls_at hi hy
     subst hy
     have n4:=same_new (o:=.tup [.ref q,.ref q']) hT4
     have s34:=s3.trans (s4.trans n4)
     refine ⟨T4,_,rfl,SqT.of upd_same,rfl,_,_,rfl,_,_,rfl,rfl,rfl,?_⟩
     refine ⟨_,rfl,_,rfl,_,rfl,pc,q,q',trisOf ns,_,_,rfl,(hC.same (n2.trans (s4.trans n4))).cs,tris_ne ro.len,tris_lt ro.len3,tris_bd ro.bd,ro.b12,e2.same s34,e4.same s34,hqb _ (List.mem_of_getElem? (qAt_get (by omega))),hqb _ (List.mem_of_getElem? (qAt_get (by omega))),fun v H5 hv s5=>?_⟩
     rw [bl_of hv]
     exact hR _ (n4.trans s5)
    ·intro H4 s4 hD4
     refine ⟨D2,_,rfl,SqL.of hD4,k _ _ ?_ (s3.trans s4)⟩
     rw [all_map]
     unfold isPathM
     constructor
     ·intro z
      exact ⟨op,fun i hi=>by simpa using z i (by omega)⟩
     ·intro z i hi
      simpa using z.2 i (by omega)
def len2M (s e:Tri):Int:=(e.1 - s.1)*(e.1 - s.1)+(e.2.1 - s.2.1)*(e.2.1 - s.2.1)+(e.2.2 - s.2.2)*(e.2.2 - s.2.2)
def spLen2:Sp:=fun vs H Q _=>∃ (ps pe:Addr) (s e:Tri),vs=[.ref ps,.ref pe]/\TriAt H ps s/\TriAt H pe e/\Pb s 100000/\Pb e 100000/\∀ H',Same H H'->Q (.int (len2M s e)) H'
theorem sc_measure_length2:FnScope ["start", "end", "x", "y", "z"] ["start", "end"] (defScope s_measure_length2):=⟨rfl,rfl,rfl,by decide +kernel,rfl,by decide +kernel,by decide +kernel⟩
theorem ok_measure_length2 (F:At K mg "measure_length2" s_measure_length2 ["start", "end"]) (T:Txt mg):Def P w K mg base "measure_length2" 1 ["start", "end"] spLen2:=by
 refine F.ok sc_measure_length2 (fun vs H Q E h=>?_) (fun f cdv A outer s H vs Q E hr h=>?_)
 ·obtain ⟨_,_,_,_,rfl,_⟩:=h
  rfl
 ·obtain ⟨ps,pe,st,e,rfl,hs,he,bs,be,k⟩:=h
  have nd:=sc_measure_length2.nd
  have mk:∀ {x y:Int},x.natAbs<=100000->y.natAbs<=100000->CMulB (x - y) (x - y):=fun h1 h2=>mulOk (m:=20) (n:=20) (by omega) (by omega) (by decide)
  refine ⟨_,(pss_cons (ps_set (i:=2) nd rfl (Or.inl rfl) (pe_op op_sub (pe_ix ix_tup (pv 1) pe_int (fun _ _=>rfl)) (pe_ix ix_tup (pv 0) pe_int (fun _ _=>rfl))))
   (pss_cons (ps_set (i:=3) nd rfl (Or.inl rfl) (pe_op op_sub (pe_ix ix_tup (pv 1) pe_int (fun _ _=>rfl)) (pe_ix ix_tup (pv 0) pe_int (fun _ _=>rfl))))
   (pss_cons (ps_set (i:=4) nd rfl (Or.inl rfl) (pe_op op_sub (pe_ix ix_tup (pv 1) pe_int (fun _ _=>rfl)) (pe_ix ix_tup (pv 0) pe_int (fun _ _=>rfl))))
   (pss_one (ps_ret (pe_op op_add (pe_op op_add (pe_op op_mulB (pv 2) (pv 2)) (pe_op op_mulB (pv 3) (pv 3))) (pe_op op_mulB (pv 4) (pv 4)))))))),?_⟩
  refine ⟨_,rfl,pe,_,_,_,rfl,rfl,SqT.of he,rfl,_,rfl,ps,_,_,_,rfl,rfl,SqT.of hs,rfl,_,_,rfl,rfl,?_⟩
  refine ⟨_,rfl,pe,_,_,_,rfl,rfl,SqT.of he,rfl,_,rfl,ps,_,_,_,rfl,rfl,SqT.of hs,rfl,_,_,rfl,rfl,?_⟩
  refine ⟨_,rfl,pe,_,_,_,rfl,rfl,SqT.of he,rfl,_,rfl,ps,_,_,_,rfl,rfl,SqT.of hs,rfl,_,_,rfl,rfl,?_⟩
  exact ⟨_,rfl,_,rfl,_,_,rfl,rfl,mk be.1 bs.1,_,rfl,_,rfl,_,_,rfl,rfl,mk be.2.1 bs.2.1,_,_,rfl,rfl,_,rfl,_,rfl,_,_,rfl,rfl,mk be.2.2 bs.2.2,_,_,rfl,rfl,k _ (Same.refl H)⟩
end
end Gn
namespace Gn
open PySem PySem.Spec PyProof.Rows L2 Lw
open PySem.W (Codec WData)
def PathAt (H:Hp) (p:Addr) (c:Int×List Nat):Prop:=∃ a,H p=some (.tup [.int c.1,.ref a])/\H a=some (.lst (nV c.2))
theorem PathAt.same {H H':Hp} {p:Addr} {c:Int×List Nat} (h:PathAt H p c) (s:Same H H'):PathAt H' p c:=by
 obtain ⟨a,h1,h2⟩:=h
 exact ⟨a,s _ _ h1,s _ _ h2⟩
def esM (ns:List Int) (en:Tri) (y:Way):List Tri:=endsM (planesM ns) y.1 en
def hsM (ns:List Int) (en:Tri) (y:Way):List (Int×Int):=htsM (planesM ns) y.1 y.2 (esM ns en y)
def turnsM (ns:List Int) (en:Tri) (y:Way):List Qd:=(List.range y.1.length).map fun i=>partM (triAt y.2 i) (triAt (esM ns en y) i) (prAt (hsM ns en y) i)
def ptOf (q:Tri):Qd:=(q.1,q.2.1,q.2.2,1)
def ptsM (ns:List Int) (st en:Tri) (y:Way):List Qd:=ptOf st :: (turnsM ns en y ++ [ptOf en])
def goodM (ns:List Int) (st en:Tri) (y:Way):Prop:=orderM (hsM ns en y)/\isPathM ns y.1 (ptsM ns st en y)
def pathOf (ns:List Int) (st en:Tri) (y:Way):Int×List Nat:=(len2M st (triAt (esM ns en y) 0),y.1)
open Classical in
noncomputable def pathsOf (ns:List Int) (st en:Tri) (l:List Way):List (Int×List Nat):=(l.filter fun y=>decide (goodM ns st en y)).map (pathOf ns st en)
theorem pathsOf_snoc {ns:List Int} {st en:Tri} {l:List Way} {y:Way}:pathsOf ns st en (l ++ [y])=pathsOf ns st en l ++ pathsOf ns st en [y]:=by
 unfold pathsOf
 rw [List.filter_append,List.map_append]
theorem pathsOf_yes {ns:List Int} {st en:Tri} {y:Way} (h:goodM ns st en y):pathsOf ns st en [y]=[pathOf ns st en y]:=by
 unfold pathsOf
 simp [h]
theorem pathsOf_no {ns:List Int} {st en:Tri} {y:Way} (h:¬ goodM ns st en y):pathsOf ns st en [y]=[]:=by
 unfold pathsOf
 simp [h]
theorem pathsOf_len {ns:List Int} {st en:Tri} {l:List Way}:(pathsOf ns st en l).length<=l.length:=by
 unfold pathsOf
 rw [List.length_map]
 exact List.length_filter_le _ _
theorem ways_walls {pls:List Qd} {st:Tri}:∀ k,∀ y∈waysM pls st k,∀ w∈y.1,w < pls.length
 | 0,y,hy,w,hw=>by
  have:y=([],[st]):=by simpa [waysM] using hy
  subst this
  simp at hw
 | k+1,y,hy,w,hw=>by
  obtain ⟨z,hz,hy⟩:=List.mem_flatMap.mp hy
  have ih:=ways_walls k z hz
  unfold stepM stepTo at hy
  obtain ⟨u,hu,hy⟩:=List.mem_filterMap.mp hy
  unfold stepAt at hy
  cases e:pls[u]? with
  | none=>rw [e] at hy; cases hy
  | some pl =>
   rw [e] at hy
   simp only [Option.bind_some] at hy
   by_cases c:0 < heightM pl (lastT z.2)
   ·rw [if_pos c] at hy
    cases hy
    rcases List.mem_append.mp hw with h | h
    ·exact ih w h
    ·have:w=u:=by simpa using h
     subst this
     exact List.mem_range.mp hu
   ·rw [if_neg c] at hy
    cases hy
theorem all_mem {pls:List Qd} {st:Tri} {y:Way}:∀ m,y∈allWays pls st m->∃ k,k<=m/\y∈waysM pls st k
 | 0,h=>⟨0,Nat.le_refl _,h⟩
 | m+1,h=>by
  rcases List.mem_append.mp h with h | h
  ·obtain ⟨k,hk,h⟩:=all_mem m h
   exact ⟨k,by omega,h⟩
  ·exact ⟨m+1,Nat.le_refl _,h⟩
theorem prAt_hts {pls:List Qd} {ws:List Nat} {ss es:List Tri} {i:Nat} (h:i < ws.length):prAt (htsM pls ws ss es) i=htM pls ws ss es i:=by
 have:=htsM_at (pls:=pls) (ss:=ss) (es:=es) h
 unfold prAt
 rw [List.getD_eq_getElem?_getD,this]
 rfl
theorem hts_bd {pls:List Qd} {ws:List Nat} {ss es:List Tri} (po:PlsOk pls) (hw:∀ w∈ws,w < pls.length) (ls:ss.length=ws.length+1) (le:es.length=ws.length+1) (bs:∀ q∈ss,Pb q 100000) (be:∀ q∈es,Pb q 100000) (i:Nat):(prAt (htsM pls ws ss es) i).1.natAbs<=1000000/\(prAt (htsM pls ws ss es) i).2.natAbs<=1000000:=by
 by_cases c:i < ws.length
 ·rw [prAt_hts c]
  have ok:=plAt_ok po (hw _ (List.mem_of_getElem? (natAt_get c)))
  have h1:=height_bd ok (bs _ (List.mem_of_getElem? (triAt_get (l:=ss) (i:=i) (by omega))))
  have h2:=height_bd ok (be _ (List.mem_of_getElem? (triAt_get (l:=es) (i:=i+1) (by omega))))
  unfold htM
  constructor <;> simp only <;> omega
 ·unfold prAt
  rw [List.getD_eq_getElem?_getD,List.getElem?_eq_none (by rw [htsM_len]; omega)]
  exact ⟨by decide,by decide⟩
theorem part_bd {s e:Tri} {h:Int×Int} (bs:Pb s 100000) (be:Pb e 100000) (h1:h.1.natAbs<=1000000) (h2:h.2.natAbs<=1000000):Qb (partM s e h):=by
 have m1:=mul_le bs.1 h2
 have m2:=mul_le be.1 h1
 have m3:=mul_le bs.2.1 h2
 have m4:=mul_le be.2.1 h1
 exact ⟨by show (s.1*h.2+e.1*h.1).natAbs<=_; omega,by show (s.2.1*h.2+e.2.1*h.1).natAbs<=_; omega,by show (h.1+h.2).natAbs<=_; omega⟩
theorem pt_bd {q:Tri} (h:Pb q 4095):Qb (ptOf q):=⟨by show q.1.natAbs<=_; have:=h.1; omega,by show q.2.1.natAbs<=_; have:=h.2.1; omega,by show (1:Int).natAbs<=_; decide⟩
section
variable {P:Program} {w:World} {K:PySem.W.Frag} {mg:Str->Option Value} {base:Heap}
def spFind (K:PySem.W.Frag):Sp:=fun vs H Q _=>∃ (a ps pe:Addr) (ns:List Int) (st en:Tri) (most:Nat),vs=[.ref a,.ref ps,.ref pe,.int (most:Int)]/\SqL K H a (ns.map V.int)/\RoomOk ns/\PlsOk (planesM ns)/\TriAt H ps st/\TriAt H pe en/\Pb st 4095/\Pb en 4095/\most<=4/\(planesM ns).length ^ most<=20000 /\
 ∀ H' r,Same H H'->LsAt PathAt H' r (pathsOf ns st en (allWays (planesM ns) st most))->Q (.ref r) H'
theorem sc_find_paths:FnScope ["room", "start", "end", "most", "planes", "paths", "way", "walls", "starts", "ends", "heights", "turns", "points", "turn"] ["room", "start", "end", "most"] (defScope s_find_paths):=⟨rfl,rfl,rfl,by decide +kernel,rfl,by decide +kernel,by decide +kernel⟩
theorem ok_find_paths (F:At K mg "find_paths" s_find_paths ["room", "start", "end", "most"]) (T:Txt mg) (D_list_planes:Def P w K mg base "list_planes" 4 ["room"] (spPlanes K)) (D_list_ways:Def P w K mg base "list_ways" 4 ["planes", "start", "most"] (spWays K)) (D_list_seen_ends:Def P w K mg base "list_seen_ends" 3 ["planes", "walls", "end"] (spSeen K))
  (D_list_heights:Def P w K mg base "list_heights" 2 ["planes", "walls", "starts", "ends"] (spHeights K)) (D_are_in_order:Def P w K mg base "are_in_order" 1 ["heights"] (spOrder K)) (D_part_way:Def P w K mg base "part_way" 1 ["start", "end", "heights"] spPart) (D_is_path:Def P w K mg base "is_path" 6 ["room", "walls", "points"] (spIsPath K)) (D_measure_length2:Def P w K mg base "measure_length2" 1 ["start", "end"] spLen2) :
  Def P w K mg base "find_paths" 7 ["room", "start", "end", "most"] (spFind K):=by
 refine F.ok sc_find_paths (fun vs H Q E h=>?_) (fun f cdv A outer s H vs Q E hr h=>?_)
 ·obtain ⟨_,_,_,_,_,_,_,rfl,_⟩:=h
  rfl
 ·obtain ⟨a,ps,pe,ns,st,en,most,rfl,hS,ro,po,hs,he,bs,be,hm,hn,k⟩:=h
  have nd:=sc_find_paths.nd
  have l3:12<=ns.length:=by have:=ro.len.2.1; omega
  have pl:(planesM ns).length=(trisOf ns).length+2:=by simp [planesM]
  refine ⟨_,(pss_cons (ps_set (i:=4) nd rfl (Or.inl rfl) (pe_callD D_list_planes hr (pa_cons (pv 0) pa_nil)))
   (pss_cons (ps_set (i:=5) nd rfl (Or.inl rfl) (pe_lst pa_nil))
   (pss_cons (ps_for PassesOwn.never rfl (pi_list (pe_callD D_list_ways hr (pa_cons (pv 4) (pa_cons (pv 1) (pa_cons (pv 3) pa_nil))))) (pg_name (i:=6) nd rfl (Or.inl rfl)) (pss_cons (ps_set (i:=7) nd rfl (Or.inl rfl) (pe_ix ix_tup (pv 6) pe_int (fun _ _=>rfl)))
   (pss_cons (ps_set (i:=8) nd rfl (Or.inr rfl) (pe_ix ix_tup (pv 6) pe_int (fun _ _=>rfl)))
   (pss_cons (ps_set (i:=9) nd rfl (Or.inr rfl) (pe_callD D_list_seen_ends hr (pa_cons (pv 4) (pa_cons (pv 7) (pa_cons (pv 2) pa_nil)))))
   (pss_cons (ps_set (i:=10) nd rfl (Or.inr rfl) (pe_callD D_list_heights hr (pa_cons (pv 4) (pa_cons (pv 7) (pa_cons (pv 8) (pa_cons (pv 9) pa_nil))))))
   (pss_one (ps_if (pt_val (pe_callD D_are_in_order hr (pa_cons (pv 10) pa_nil))) (pss_cons (ps_setLc (i:=11) rfl nd rfl rfl (sw_true rfl rfl rfl rfl) (pi_range1 (by rfl) T.b_range (pa_cons (pe_callB call_len_seq (by rfl) T.b_len bt_len (pa_cons (pv 7) pa_nil)) pa_nil)) (blkOk_by (own:=[("turn",13)]) (by show blkC ["room", "start", "end", "most", "planes", "paths", "way", "walls", "starts", "ends", "heights", "turns", "points", "turn"] (defScope s_find_paths) _ _=true; decide +kernel)) (fun _ _ _ _ _=>(pg_name (i:=13) nd rfl (Or.inl rfl))) (fun _ _ _ _ _=>pts_nil) (fun _ _ _ _ _=>(pe_callD D_part_way hr (pa_cons (pe_ix (show IxR _ (rIxL K) from ix_list) (pv 8) (pv 13) (fun _ _=>rfl)) (pa_cons (pe_ix (show IxR _ (rIxL K) from ix_list) (pv 9) (pv 13) (fun _ _=>rfl)) (pa_cons (pe_ix (show IxR _ (rIxL K) from ix_list) (pv 10) (pv 13) (fun _ _=>rfl)) pa_nil))))))
   (pss_cons (ps_set (i:=12) nd rfl (Or.inl rfl) (pe_op op_cat (pe_op op_cat (pe_lst (pa_cons (pe_op op_catT (pv 1) (pe_tup (pa_cons pe_int pa_nil))) pa_nil)) (pv 11)) (pe_lst (pa_cons (pe_op op_catT (pv 2) (pe_tup (pa_cons pe_int pa_nil))) pa_nil))))
   (pss_one (ps_if (pt_val (pe_callD D_is_path hr (pa_cons (pv 0) (pa_cons (pv 7) (pa_cons (pv 12) pa_nil))))) (pss_one (ps_expr (pe_bm PySem.F.plainAttrs_list PySem.F.slot_list_append PySem.F.type_list_append mt_append (pv 5) (pa_cons (pe_tup (pa_cons (pe_callD D_measure_length2 hr (pa_cons (pv 1) (pa_cons (pe_ix ix_list (pv 9) pe_int (fun _ _=>rfl)) pa_nil))) (pa_cons (pv 7) pa_nil))) pa_nil)))) pss_nil)))) pss_nil)))))))
   (pss_one (ps_ret (pv 5)))))),?_⟩
  refine ⟨_,rfl,a,ns,rfl,hS,ro,fun H1 pp s1 hP=>?_⟩
  refine ⟨(by show 0<=sizeLine; decide),fun D hD=>?_⟩
  have nD:=same_new (o:=.lst []) hD
  have hPD:=hP.tp Tp.qd nD
  have tr:∀ {p:Addr} {q:Tri},TriAt H p q->TriAt (out (fun x=>x=D) (upd H1 D (.lst []))) p q:=fun {p q} h=>by
   have h1:=s1 _ _ h
   refine out_new (fun e=>?_) (nD _ _ h1)
   rw [e,hD] at h1
   cases h1
  refine ⟨_,rfl,_,rfl,_,rfl,fun x=>x=D,pp,ps,planesM ns,st,most,rfl,(fun x e=>?_),hPD,tr hs,bs,po,hm,hn,(by omega),fun H2 r s2 hR=>?_⟩
  ·rw [e,upd_same]
   exact fun z=>by cases z
  obtain ⟨ys,y1,y2,y3⟩:=hR
  have y1':=(out_some.mp y1).2
  have hD2:=s2 _ _ (upd_same (H:=H1) (a:=D) (o:=.lst []))
  have b1:Same H1 (out (fun x=>x=D) H2):=fun x o e=>by
   refine out_new (fun z=>?_) (s2 _ _ (nD _ _ e))
   rw [z,hD] at e
   cases e
  have al:=all_len (st:=st) hn (by omega) most (Nat.le_refl _)
  have wsz:(allWays (planesM ns) st most).length<=100000:=by
   have:=al.2
   have:(most+1)*20000<=5*20000:=Nat.mul_le_mul_right _ (by omega)
   omega
  refine ⟨r,rfl,⟨_,SqL.of y1'⟩,for_list (K:=K) (a:=r) (xs:=ys.map V.ref)
   (fun i σ H'=>∃ v1 v2 v3 v4 v5 v6 v7 v8:Option V,σ=[some (.ref a),some (.ref ps),some (.ref pe),some (.int (most:Int)),some (.ref pp),some (.ref D),v1,v2,v3,v4,v5,v6,v7,v8]/\Same (out (fun x=>x=D) H2) (out (fun x=>x=D) H') /\
    ∃ qs:List Addr,H' D=some (.lst (qs.map V.ref))/\qs.length=(pathsOf ns st en ((allWays (planesM ns) st most).take i)).length/\∀ (j:Nat) p c,qs[j]? = some p->(pathsOf ns st en ((allWays (planesM ns) st most).take i))[j]? = some c->PathAt (out (fun x=>x=D) H') p c)
   ⟨none,none,none,none,none,none,none,none,rfl,Same.refl _,[],hD2,rfl,fun j p c x1 _=>by simp at x1⟩ (fun i σ H' _ ⟨_,_,_,_,_,_,_,_,_,q,_⟩=>SqL.of (out_same _ _ (q _ _ y1))) ?_ ?_⟩
  ·rintro i x σ H3 hx ⟨v1,v2,v3,v4,v5,v6,v7,v8,rfl,s3,qs,q1,q2,q3⟩
   have hi:i < (allWays (planesM ns) st most).length:=by
    have:=(List.getElem?_eq_some_iff.mp hx).1
    rw [List.length_map,y2] at this
    exact this
   have hi? : (allWays (planesM ns) st most)[i]? = some (allWays (planesM ns) st most)[i]:=List.getElem?_eq_getElem hi
   have hyi:ys[i]? = some (ys[i]'(by omega)):=List.getElem?_eq_getElem (by omega)
   have yw:=y3 i _ _ hyi hi?
   rw [List.getElem?_map,hyi] at hx
   cases hx
   obtain ⟨kk,hkk,hmem⟩:=all_mem most (List.getElem_mem hi)
   have wl:=waysL po bs kk _ hmem
   have ww:=ways_walls kk _ hmem
   have snoc:pathsOf ns st en ((allWays (planesM ns) st most).take (i+1))=pathsOf ns st en ((allWays (planesM ns) st most).take i) ++ pathsOf ns st en [(allWays (planesM ns) st most)[i]]:=by
    rw [List.take_add_one,hi?]
    exact pathsOf_snoc
   generalize (allWays (planesM ns) st most)[i]=y at *
   have b3:Same H1 (out (fun x=>x=D) H3):=b1.trans s3
   have hP3:LsAt QdAt H3 pp (planesM ns):=hP.tp Tp.qd (b3.trans out_same)
   have yw3:=yw.same s3
   obtain ⟨aw,as,w1,w2,w3⟩:=yw3
   have w1':=(out_some.mp w1).2
   have w2':=(out_some.mp w2).2
   have w3':=w3.tp Tp.tri out_same
   have h4:y.1.length<=4:=by have:=wl.w; omega
   have e3:TriAt H3 pe en:=(b3.trans out_same) _ _ (s1 _ _ he)
   have s3t:TriAt H3 ps st:=(b3.trans out_same) _ _ (s1 _ _ hs)
   have hwall:∀ w∈y.1,w < (planesM ns).length:=ww
   refine ⟨_,rfl,_,_,_,_,rfl,rfl,SqT.of w1',rfl,_,rfl,_,_,_,_,rfl,rfl,SqT.of w1',rfl,?_⟩
   refine ⟨_,rfl,_,rfl,_,rfl,pp,aw,pe,planesM ns,y.1,en,rfl,hP3,w2',e3,po,be,h4,hwall,fun H4 es s4 hE=>?_⟩
   have ssL:y.2.length=y.1.length+1:=by rw [wl.s,wl.w]
   have esL:(endsM (planesM ns) y.1 en).length=y.1.length+1:=endsM_len _ _ _
   have bsA:∀ q∈y.2,Pb q 100000:=(wl.ok (by omega)).b
   have beA:∀ q∈endsM (planesM ns) y.1 en,Pb q 100000:=fun q hq=>(endsM_bd po be _ hwall q hq).mono (by omega)
   refine ⟨_,rfl,_,rfl,_,rfl,_,rfl,pp,aw,as,es,planesM ns,y.1,y.2,_,rfl,hP3.tp Tp.qd s4,s4 _ _ w2',w3'.tp Tp.tri s4,hE,po,h4,hwall,ssL,esL,bsA,beA,fun H5 hp s5 hH=>?_⟩
   have hb:=hts_bd po hwall ssL esL bsA beA
   refine ⟨_,rfl,hp,_,rfl,hH,(by rw [htsM_len]; exact h4),hb,fun v H6 hv s6=>⟨_,rfl,?_⟩⟩
   have s36:=s4.trans (s5.trans s6)
   have nx:∀ {H':Hp},Same H3 H'->¬ goodM ns st en y->(Same (out (fun x=>x=D) H2) (out (fun x=>x=D) H') /\
    ∃ qs:List Addr,H' D=some (.lst (qs.map V.ref))/\qs.length=(pathsOf ns st en ((allWays (planesM ns) st most).take (i+1))).length/\∀ (j:Nat) p c,qs[j]? = some p->(pathsOf ns st en ((allWays (planesM ns) st most).take (i+1)))[j]? = some c->PathAt (out (fun x=>x=D) H') p c):=fun {H'} s7 ng=>by
    rw [snoc,pathsOf_no ng,List.append_nil]
    exact ⟨s3.trans (sout s7),qs,s7 _ _ q1,q2,fun j p c x1 x2=>(q3 j p c x1 x2).same (sout s7)⟩
   refine ite2 (fun c=>?_) (fun c=>?_)
   ·have ord:=hv.mp c
    have w2_6:=s36 _ _ w2'
    have L0:(nV y.1).length=y.1.length:=nV_len _
    have tl:(turnsM ns en y).length=y.1.length:=by simp [turnsM]
    refine ⟨_,rfl,aw,_,rfl,.inl (SqL.of w2_6),_,rfl,(by omega),(by omega),fun D3 hD3=>lc_range (lo:=0) (n:=(((nV y.1).length:Nat):Int).toNat) (Built QdAt H6 D3 (turnsM ns en y)) (built0 hD3) ?_ ?_⟩
    ·intro j H7 hj b
     have ej:(0:Int)+(j:Int)=(j:Int):=by omega
     rw [ej]
     have hj:j < y.1.length:=by omega
     have sA:Same H3 H7:=s36.trans b.1
     have sE:Same H4 H7:=(s5.trans s6).trans b.1
     have sH:Same H5 H7:=s6.trans b.1
     obtain ⟨x1,p1,i1,i2,i3⟩:=ix_list_at (w3'.tp Tp.tri sA) (triAt_get (l:=y.2) (i:=j) (by omega))
     obtain ⟨x2,p2,j1,j2,j3⟩:=ix_list_at (hE.tp Tp.tri sE) (triAt_get (l:=endsM (planesM ns) y.1 en) (i:=j) (by omega))
     obtain ⟨x3,p3,k1,k2,k3⟩:=ix_list_at (hH.tp Tp.pr sH) (prAt_get (l:=htsM (planesM ns) y.1 y.2 (endsM (planesM ns) y.1 en)) (i:=j) (by rw [htsM_len]; exact hj))
     refine ⟨rfl,_,rfl,_,rfl,as,_,_,_,rfl,rfl,SqL.of i1,i2,_,rfl,_,rfl,es,_,_,_,rfl,rfl,SqL.of j1,j2,_,rfl,_,rfl,hp,_,_,_,rfl,rfl,SqL.of k1,k2,p1,p2,p3,_,_,_,rfl,i3,j3,k3,bsA _ (List.mem_of_getElem? (triAt_get (by omega))),beA _ (List.mem_of_getElem? (triAt_get (by omega))),(hb j).1,(hb j).2,fun H8 r8 s8 hr8=>?_⟩
     refine Built.step Tp.qd hD3 ?_ ?_ b s8 hr8
     ·unfold turnsM
      rw [List.getElem?_map,List.getElem?_range hj]
      rfl
     ·rw [tl]
      exact Nat.le_trans h4 (by decide)
    ·intro H7 b
     have e:(((nV y.1).length:Nat):Int).toNat=(turnsM ns en y).length:=by omega
     rw [e] at b
     obtain ⟨ts,t1,t2,t3⟩:=b.done
     have s37:=s36.trans b.1
     have st7:=s37 _ _ s3t
     refine ⟨_,rfl,(by show 1<=sizeLine; decide),fun u1 hu1=>?_⟩
     have m1:=same_new (o:=.tup [.int 1]) hu1
     refine ⟨ps,u1,_,_,rfl,rfl,SqT.of (m1 _ _ st7),SqT.of upd_same,(by simp),(by show 4<=sizeLine; decide),(fun z=>by cases z),fun _ pS hpS=>?_⟩
     have m2:=same_new (o:=.tup ([.int st.1,.int st.2.1,.int st.2.2] ++ [.int 1])) hpS
     refine ⟨(by show 1<=sizeLine; decide),fun l1 hl1=>?_⟩
     have m3:=same_new (o:=.lst [.ref pS]) hl1
     have m13:=m1.trans (m2.trans m3)
     refine ⟨_,rfl,l1,D3,_,_,rfl,rfl,upd_same,m13 _ _ t1,?_,fun l2 hl2=>?_⟩
     ·rw [List.length_map,t2,tl]
      exact Nat.le_trans (show _<=5 by simp; omega) (by decide)
     have m4:=same_new (o:=.lst ([.ref pS] ++ ts.map V.ref)) hl2
     have m14:=m13.trans m4
     refine ⟨_,rfl,(by show 1<=sizeLine; decide),fun u2 hu2=>?_⟩
     have m5:=same_new (o:=.tup [.int 1]) hu2
     have m15:=m14.trans m5
     refine ⟨pe,u2,_,_,rfl,rfl,SqT.of (m15 _ _ (s37 _ _ e3)),SqT.of upd_same,(by simp),(by show 4<=sizeLine; decide),(fun z=>by cases z),fun _ pE hpE=>?_⟩
     have m6:=same_new (o:=.tup ([.int en.1,.int en.2.1,.int en.2.2] ++ [.int 1])) hpE
     refine ⟨(by show 1<=sizeLine; decide),fun l3 hl3=>?_⟩
     have m7:=same_new (o:=.lst [.ref pE]) hl3
     have m57:=m5.trans (m6.trans m7)
     refine ⟨l2,l3,_,_,rfl,rfl,m57 _ _ upd_same,upd_same,?_,fun l4 hl4=>?_⟩
     ·rw [List.length_append,List.length_map,t2,tl]
      exact Nat.le_trans (show _<=6 by simp; omega) (by decide)
     have m8:=same_new (o:=.lst ([.ref pS] ++ ts.map V.ref ++ [.ref pE])) hl4
     have m48:=m4.trans (m57.trans m8)
     have m18:=m13.trans m48
     have dS:=m48 _ _ (m3 _ _ (upd_same (H:=upd H7 u1 (.tup [.int 1])) (a:=pS) (o:=.tup ([.int st.1,.int st.2.1,.int st.2.2] ++ [.int 1]))))
     have dE:=m8 _ _ (m7 _ _ (upd_same (a:=pE) (o:=.tup ([.int en.1,.int en.2.1,.int en.2.2] ++ [.int 1]))))
     have dL:=upd_same (H:=upd (upd (upd (upd (upd (upd (upd H7 u1 (.tup [.int 1])) pS (.tup ([.int st.1,.int st.2.1,.int st.2.2] ++ [.int 1]))) l1 (.lst [.ref pS])) l2 (.lst ([.ref pS] ++ ts.map V.ref))) u2 (.tup [.int 1])) pE (.tup ([.int en.1,.int en.2.1,.int en.2.2] ++ [.int 1]))) l3 (.lst [.ref pE])) (a:=l4) (o:=.lst ([.ref pS] ++ ts.map V.ref ++ [.ref pE]))
     have pts:LsAt QdAt (upd (upd (upd (upd (upd (upd (upd (upd H7 u1 (.tup [.int 1])) pS (.tup ([.int st.1,.int st.2.1,.int st.2.2] ++ [.int 1]))) l1 (.lst [.ref pS])) l2 (.lst ([.ref pS] ++ ts.map V.ref))) u2 (.tup [.int 1])) pE (.tup ([.int en.1,.int en.2.1,.int en.2.2] ++ [.int 1]))) l3 (.lst [.ref pE])) l4 (.lst ([.ref pS] ++ ts.map V.ref ++ [.ref pE]))) l4 (ptsM ns st en y):=by
      refine LsAt.snoc (qs:=pS :: ts) (C:=ptOf st :: turnsM ns en y) (p1:=pE) (c1:=ptOf en) (by simp [t2]) (fun j q c x1 x2=>?_) dE dL
      cases j with
      | zero =>
       cases x1
       cases x2
       exact dS
      | succ j=>exact (t3 j q c x1 x2).same m18
     generalize upd (upd (upd (upd (upd (upd (upd (upd H7 u1 (.tup [.int 1])) pS (.tup ([.int st.1,.int st.2.1,.int st.2.2] ++ [.int 1]))) l1 (.lst [.ref pS])) l2 (.lst ([.ref pS] ++ ts.map V.ref))) u2 (.tup [.int 1])) pE (.tup ([.int en.1,.int en.2.1,.int en.2.2] ++ [.int 1]))) l3 (.lst [.ref pE])) l4 (.lst ([.ref pS] ++ ts.map V.ref ++ [.ref pE]))=H8 at *
     have s38:Same H3 H8:=s37.trans m18
     have qb:∀ q∈ptsM ns st en y,Qb q:=fun q hq=>by
      unfold ptsM at hq
      rcases List.mem_cons.mp hq with z | hq
      ·rw [z]
       exact pt_bd bs
      ·rcases List.mem_append.mp hq with hq | hq
       ·unfold turnsM at hq
        obtain ⟨j,hj,rfl⟩:=List.mem_map.mp hq
        have hj:=List.mem_range.mp hj
        exact part_bd (bsA _ (List.mem_of_getElem? (triAt_get (by omega)))) (beA _ (List.mem_of_getElem? (triAt_get (by omega)))) (hb j).1 (hb j).2
       ·rw [List.mem_singleton.mp hq]
        exact pt_bd be
     refine ⟨_,rfl,_,rfl,_,rfl,a,aw,l4,ns,y.1,ptsM ns st en y,rfl,((b3.trans out_same).trans s38).seq (s1.seq hS),ro,s38 _ _ w2',pts,h4,(by simp [ptsM,tl]),(fun w hw=>by have:=hwall w hw; have:=tris_lt ro.len3; have:=tris_len ns; have:=ro.len.2.2; omega),qb,fun v2 H9 hv2 s9=>⟨_,rfl,?_⟩⟩
     have s39:=s38.trans s9
     refine ite2 (fun d=>?_) (fun d=>?_)
     ·have good:goodM ns st en y:=⟨ord,hv2.mp d⟩
      have q19:=s39 _ _ q1
      have sE9:Same H4 H9:=(s5.trans s6).trans (b.1.trans (m18.trans s9))
      obtain ⟨x2,p2,j1,j2,j3⟩:=ix_list_at (hE.tp Tp.tri sE9) (triAt_get (l:=endsM (planesM ns) y.1 en) (i:=0) (by omega))
      refine ⟨_,rfl,.inl ⟨rfl,_,SqL.of q19⟩,_,rfl,_,rfl,es,_,_,_,rfl,rfl,SqL.of j1,j2,ps,p2,_,_,rfl,s39 _ _ s3t,j3,bs.mono (by decide),beA _ (List.mem_of_getElem? (triAt_get (by omega))),fun H10 s10=>⟨_,rfl,(by show 2<=sizeLine; decide),fun t ht=>?_⟩⟩
      have n11:=same_new (o:=.tup [.int (len2M st (triAt (endsM (planesM ns) y.1 en) 0)),.ref aw]) ht
      have s3A:=s39.trans (s10.trans n11)
      have q1A:=s3A _ _ q1
      refine ⟨D,_,_,rfl,rfl,q1A,?_,_,_,_,_,_,_,_,_,rfl,(s3.trans (sout s3A)).trans (out_upd rfl),qs ++ [t],?_,?_,?_⟩
      ·rw [List.length_map,q2]
       have:=pathsOf_len (ns:=ns) (st:=st) (en:=en) (l:=(allWays (planesM ns) st most).take i)
       rw [List.length_take] at this
       exact Nat.lt_of_lt_of_le (show _ < 100001 by omega) (by decide)
      ·rw [List.map_append]
       exact upd_same
      ·rw [snoc,pathsOf_yes good]
       simp [q2]
      ·intro j p c x1 x2
       refine PathAt.same ?_ (out_upd (S:=fun x=>x=D) rfl)
       rw [snoc,pathsOf_yes good] at x2
       by_cases l:j < qs.length
       ·rw [List.getElem?_append_left l] at x1
        rw [List.getElem?_append_left (by omega)] at x2
        exact (q3 j p c x1 x2).same (sout s3A)
       ·have ej:j=qs.length:=by
         have:=(List.getElem?_eq_some_iff.mp x1).1
         simp at this
         omega
        subst ej
        simp at x1
        subst x1
        rw [q2] at x2
        simp at x2
        subst x2
        refine ⟨aw,out_new (fun z=>?_) upd_same,sout s3A _ _ w2⟩
        have:=s39.trans s10 _ _ q1
        rw [z,this] at ht
        cases ht
     ·exact ⟨_,_,_,_,_,_,_,_,rfl,nx s39 fun z=>d (hv2.mpr z.2)⟩
   ·exact ⟨_,_,_,_,_,_,_,_,rfl,nx s36 fun z=>c (hv.mpr z.1)⟩
  ·rintro σ H3 ⟨v1,v2,v3,v4,v5,v6,v7,v8,rfl,s3,qs,q1,q2,q3⟩
   rw [List.length_map,y2,List.take_length] at q2 q3
   refine ⟨_,rfl,k _ D (s1.trans ((b1.trans s3).trans out_same)) ⟨qs,q1,q2,fun j p c x1 x2=>(q3 j p c x1 x2).same out_same⟩⟩
end
end Gn
namespace Gn
open PySem PySem.Spec PyProof.Rows L2 Lw
open PySem.W (Codec WData)
section
variable {P:Program} {w:World} {K:PySem.W.Frag} {mg:Str->Option Value} {base:Heap}
def RefWIs (ns bk:List Int) (ok:Bool) (st en:Tri) (o:Option (List Int)):Prop :=
 (∃ r,RefIs ns bk (some r)/\o=some r)\/(RefIs ns bk none/\((ok=false/\o=some [-1])\/(ok=true/\((¬ (insideM ns st/\insideM ns en)/\o=some [-3])\/((insideM ns st/\insideM ns en)/\o=none)))))
def spRefW (K:PySem.W.Frag):Sp:=fun vs H Q _=>∃ (a b ps pe:Addr) (ns bk:List Int) (ok:Bool) (st en:Tri),vs=[.ref a,.ref b,.bl ok,.ref ps,.ref pe]/\SqL K H a (ns.map V.int)/\SqL K H b (bk.map V.int)/\ns.length<=300/\(∀ x∈ns,x.natAbs<=2 ^ 63)/\TriAt H ps st/\TriAt H pe en/\Bd st/\Bd en/\∀ o v H',RefWIs ns bk ok st en o->optL H' v o->Same H H'->Q v H'
theorem sc_refuse_way:FnScope ["room", "book", "is_in_range", "start", "end", "refusal"] ["room", "book", "is_in_range", "start", "end"] (defScope s_refuse_way):=⟨rfl,rfl,rfl,by decide +kernel,rfl,by decide +kernel,by decide +kernel⟩
theorem ok_refuse_way (F:At K mg "refuse_way" s_refuse_way ["room", "book", "is_in_range", "start", "end"]) (T:Txt mg) (D_refuse_room_or_book:Def P w K mg base "refuse_room_or_book" 7 ["room", "book"] (spRefuse K)) (D_is_inside:Def P w K mg base "is_inside" 5 ["room", "point"] (spInside K)):Def P w K mg base "refuse_way" 8 ["room", "book", "is_in_range", "start", "end"] (spRefW K):=by
 refine F.ok sc_refuse_way (fun vs H Q E h=>?_) (fun f cdv A outer s H vs Q E hr h=>?_)
 ·obtain ⟨_,_,_,_,_,_,_,_,_,rfl,_⟩:=h
  rfl
 · obtain ⟨a, b, ps, pe, ns, bk, ok, st, en, rfl, hS, hB, hl, hb, hs, he, bs, be, k⟩ := h
   have nd:=sc_refuse_way.nd
   refine ⟨_,(pss_cons (ps_set (i:=5) nd rfl (Or.inl rfl) (pe_callD D_refuse_room_or_book hr (pa_cons (pv 0) (pa_cons (pv 1) pa_nil))))
     (pss_cons (ps_if (pt_cmpR op_notN (pv 5) pe_non (nomark _)) (pss_one (ps_ret (pv 5))) pss_nil)
     (pss_cons (ps_if (pt_not (pt_val (pv 2))) (pss_one (ps_ret (pe_lst (pa_cons (pe_gE (by rfl) T.c_OUT_OF_RANGE) pa_nil)))) pss_nil)
     (pss_cons (ps_if (pt_not (pt_and (pt_val (pe_callD D_is_inside hr (pa_cons (pv 0) (pa_cons (pv 3) pa_nil)))) (pw_and1 (pt_val (pe_callD D_is_inside hr (pa_cons (pv 0) (pa_cons (pv 4) pa_nil))))))) (pss_one (ps_ret (pe_lst (pa_cons (pe_gE (by rfl) T.c_NOT_INSIDE) pa_nil)))) pss_nil)
     (pss_one (ps_ret pe_non)))))),?_⟩
   refine ⟨_,rfl,_,rfl,a,b,ns,bk,rfl,hS,hB,hl,hb,fun o v H1 ho hv s1=>?_⟩
   cases o with
   | some l =>
     obtain ⟨p,rfl,hp⟩:=hv
     refine ⟨_,rfl,rfl,_,rfl,?_⟩
     exact ⟨_,rfl,k (some l) _ _ (.inl ⟨l,ho,rfl⟩) ⟨p,rfl,hp⟩ s1⟩
   | none =>
     cases hv
     refine ⟨_,rfl,rfl,_,rfl,?_⟩
     refine ⟨_,rfl,_,rfl,?_⟩
     cases ok with
     | false =>
       refine ⟨(by show 1<=sizeLine; decide),fun p hp=>?_⟩
       exact k (some [-1]) _ _ (.inr ⟨ho,.inl ⟨rfl,rfl⟩⟩) ⟨p,rfl,upd_same⟩ (s1.trans (same_new hp))
     | true =>
       obtain ⟨⟨lo,hh,hbk,_⟩,_⟩:=And.intro (fault_none (ref_none ho).1) trivial
       refine ⟨_,rfl,_,rfl,a,ps,ns,st,rfl,s1.seq hS,lo,hl,hb,hs.same s1,bs,fun v1 H2 hv1 s2=>⟨_,rfl,?_⟩⟩
       have s12:=s1.trans s2
       cases v1 with
       | false =>
         refine ⟨(by show 1<=sizeLine; decide),fun p hp=>?_⟩
         refine k (some [-3]) _ _ (.inr ⟨ho,.inr ⟨rfl,.inl ⟨fun z=>?_,rfl⟩⟩⟩) ⟨p,rfl,upd_same⟩ (s12.trans (same_new hp))
         have:=hv1.mpr z.1
         cases this
       | true =>
         refine ⟨_,rfl,_,rfl,a,pe,ns,en,rfl,s12.seq hS,lo,hl,hb,he.same s12,be,fun v2 H3 hv2 s3=>⟨_,rfl,?_⟩⟩
         have s13:=s12.trans s3
         cases v2 with
         | false =>
           refine ⟨(by show 1<=sizeLine; decide),fun p hp=>?_⟩
           refine k (some [-3]) _ _ (.inr ⟨ho,.inr ⟨rfl,.inl ⟨fun z=>?_,rfl⟩⟩⟩) ⟨p,rfl,upd_same⟩ (s13.trans (same_new hp))
           have:=hv2.mpr z.2
           cases this
         | true=>exact k none _ _ (.inr ⟨ho,.inr ⟨rfl,.inr ⟨⟨hv1.mp rfl,hv2.mp rfl⟩,rfl⟩⟩⟩) rfl s13
def iL (l:List Nat):List Int:=l.map fun (n:Nat)=>(n:Int)
theorem iL_V (l:List Nat):(iL l).map V.int=nV l:=by
 unfold iL nV
 rw [List.map_map]
 rfl
structure PathOk (ns:List Int) (c:Int×List Nat):Prop where
 q0:0<=c.1
 q40:c.1<=2 ^ 40
 l4:c.2.length<=4
 w:∀ x∈c.2,x < ns.length / 3+1
def gainP (ns bk:List Int) (b:Nat) (c:Int×List Nat):Nat:=gainW c.1.toNat ns bk (iL c.2) b
end
end Gn
namespace Gn
open Eh
theorem fine_of {ns:List Int} (h:FaultIs ns none):Wm.Fine (Wm.theRoom ns)/\(Wm.theRoom ns).n=ns.length / 3 - 1/\3<=ns.length / 3 - 1:=by
 obtain ⟨⟨l3,l1,l2⟩,hd,hb,har⟩:=fault_none h
 have hn:0 < ns.length / 3 - 1:=by omega
 have tl:=tris_len ns
 rw [tl] at hb har
 have dirs:∀ i,Wm.dirC ((Wm.theRoom ns).corner i) ((Wm.theRoom ns).corner (i+1))=true:=fun i=>by
  rw [← corner_mod _ i 1,← Wm.corner_wrap,Wm.theRoom_n]
  have:=mt (b4 hn (i % (ns.length / 3 - 1))).mpr (hb 4 _ (by omega) (by omega) (Nat.mod_lt _ hn))
  unfold p4 at this
  simpa using this
 have bends:∀ i,Wm.alongC ((Wm.theRoom ns).corner i) ((Wm.theRoom ns).corner (i+1)) ((Wm.theRoom ns).corner (i+1)) ((Wm.theRoom ns).corner (i+2))=false:=fun i=>by
  rw [← corner_mod _ i 1,← corner_mod _ i 2,← Wm.corner_wrap _ i,Wm.theRoom_n]
  exact Bool.eq_false_iff.mpr (mt (b5 hn (i % (ns.length / 3 - 1))).mpr (hb 5 _ (by omega) (by omega) (Nat.mod_lt _ hn)))
 have no6:∀ i,i < ns.length / 3 - 1->p6 (Wm.theRoom ns) i=false:=fun i hi=>Bool.eq_false_iff.mpr fun z=>by
  obtain ⟨i',h1,h2⟩:=first6 hn dirs i hi z
  exact hb 6 i' (by omega) (by omega) (by omega) h2
 have inr:∀ i,(0<=((Wm.theRoom ns).corner i).x/\((Wm.theRoom ns).corner i).x<=4095)/\(0<=((Wm.theRoom ns).corner i).y/\((Wm.theRoom ns).corner i).y<=4095):=fun i=>by
  rw [← Wm.corner_wrap,Wm.theRoom_n]
  have:=mt (b3 hn (i % (ns.length / 3 - 1))).mpr (hb 3 _ (by omega) (by omega) (Nat.mod_lt _ hn))
  unfold p3 WIDE at this
  simp only [Bool.or_eq_true,decide_eq_true_iff] at this
  omega
 have pol:Wm.Poly (Wm.theRoom ns).corner (ns.length / 3 - 1):={
  n3:=l1
  per:=fun i=>by
   rw [← Wm.corner_wrap _ (i+(ns.length / 3 - 1)),Wm.theRoom_n,Nat.add_mod_right]
   have:=Wm.corner_wrap (Wm.theRoom ns) i
   rw [Wm.theRoom_n] at this
   exact this
  dir:=dirs
  bend:=bends
  apart:=fun i j hi hj nb=>by
   have:=no6 i hi
   unfold p6 at this
   rw [Wm.theRoom_n] at this
   have:=List.any_eq_false.mp this j (List.mem_range.mpr hj)
   rw [nb] at this
   simpa using this }
 have ne:=pol.area_ne (fun i=>(inr i).1) (fun i=>(inr i).2)
 have ar:=area_eq (ns:=ns) hn
 have an:(Wm.theRoom ns).area2=Wm.sm (fun i=>((Wm.theRoom ns).corner i).x*((Wm.theRoom ns).corner (i+1)).y - ((Wm.theRoom ns).corner (i+1)).x*((Wm.theRoom ns).corner i).y) (ns.length / 3 - 1):=by
  unfold Room.area2
  rw [Wm.theRoom_n,Wm.foldr_sm]
 have pos:0 < Wm.sm (fun i=>((Wm.theRoom ns).corner i).x*((Wm.theRoom ns).corner (i+1)).y - ((Wm.theRoom ns).corner (i+1)).x*((Wm.theRoom ns).corner i).y) (ns.length / 3 - 1):=by
  rw [an] at ar
  omega
 refine ⟨{ pol:=?_,hx:=fun i=>(inr i).1,hy:=fun i=>(inr i).2,neg:=?_,h1:=hd.1.1 },Wm.theRoom_n ns,l1⟩
 ·rw [Wm.theRoom_n]
  exact pol
 ·rw [Wm.theRoom_n]
  exact pol.lfE_neg (fun i=>(inr i).1) (fun i=>(inr i).2) pos
theorem corner_tri {ns:List Int} (h:FaultIs ns none) (i:Nat):((Wm.theRoom ns).corner i).x=(atC (trisOf ns) i).1/\((Wm.theRoom ns).corner i).y=(atC (trisOf ns) i).2.1:=by
 have:=(fine_of h).2.2
 rw [corner_eq (by omega)]
 exact ⟨rfl,rfl⟩
theorem room_ok {ns:List Int} (h:FaultIs ns none) (hl:ns.length<=300) (hb:∀ x∈ns,x.natAbs<=2 ^ 63):RoomOk ns:=by
 obtain ⟨F,hn,l1⟩:=fine_of h
 obtain ⟨lo,hd,_⟩:=fault_none h
 refine ⟨lo,hl,hb,hd.1,fun j=>?_,fun i hi=>?_⟩
 ·have e:=corner_tri h j
  have a:=F.hx j
  have b:=F.hy j
  rw [e.1] at a
  rw [e.2] at b
  exact ⟨a,b⟩
 ·have d:=F.pol.dir i
  have e:=corner_tri h i
  have e1:=corner_tri h (i+1)
  unfold Wm.dirC at d
  simp at d
  unfold runX runY
  rw [← e.1,← e.2,← e1.1,← e1.2]
  omega
theorem quot_dirs {dx dy:Int} (h:(dx=0/\dy≠0)\/(dx≠0/\dy=0)\/(dx≠0/\dx=dy)\/(dx≠0/\dx=-dy)):∃ a b L:Int,0 < L/\-dy / max (dx.natAbs:Int) (dy.natAbs:Int)=a/\dx / max (dx.natAbs:Int) (dy.natAbs:Int)=b/\B1 a/\B1 b/\-dy=a*L/\dx=b*L/\(a*a+b*b=1\/a*a+b*b=2):=by
 have k:∀ {L e:Int},0 < L->(e*L) / L=e:=fun {L e} hL=>Int.mul_ediv_cancel e (by omega)
 have mx:∀ {L:Int},0 < L->max (dx.natAbs:Int) (dy.natAbs:Int)=L->∀ {a b:Int},-dy=a*L->dx=b*L->B1 a->B1 b->(a*a+b*b=1\/a*a+b*b=2)->∃ a b L:Int,0 < L/\-dy / max (dx.natAbs:Int) (dy.natAbs:Int)=a/\dx / max (dx.natAbs:Int) (dy.natAbs:Int)=b/\B1 a/\B1 b/\-dy=a*L/\dx=b*L/\(a*a+b*b=1\/a*a+b*b=2):=fun {L} hL e {a b} h1 h2 h3 h4 h5=>by
  refine ⟨a,b,L,hL,?_,?_,h3,h4,h1,h2,h5⟩
  ·rw [e,h1,k hL]
  ·rw [e]
   conv=>lhs; rw [h2]
   exact k hL
 unfold B1 at mx ⊢
 rcases h with ⟨h1,h2⟩ | ⟨h1,h2⟩ | ⟨h1,h2⟩ | ⟨h1,h2⟩
 ·rcases (show 0 < dy\/dy < 0 by omega) with c | c
  ·exact mx (L:=dy) c (by omega) (a:=-1) (b:=0) (by omega) (by omega) (by decide) (by decide) (by decide)
  ·exact mx (L:=-dy) (by omega) (by omega) (a:=1) (b:=0) (by omega) (by omega) (by decide) (by decide) (by decide)
 ·rcases (show 0 < dx\/dx < 0 by omega) with c | c
  ·exact mx (L:=dx) c (by omega) (a:=0) (b:=1) (by omega) (by omega) (by decide) (by decide) (by decide)
  ·exact mx (L:=-dx) (by omega) (by omega) (a:=0) (b:=-1) (by omega) (by omega) (by decide) (by decide) (by decide)
 ·rcases (show 0 < dx\/dx < 0 by omega) with c | c
  ·exact mx (L:=dx) c (by omega) (a:=-1) (b:=1) (by omega) (by omega) (by decide) (by decide) (by decide)
  ·exact mx (L:=-dx) (by omega) (by omega) (a:=1) (b:=-1) (by omega) (by omega) (by decide) (by decide) (by decide)
 ·rcases (show 0 < dx\/dx < 0 by omega) with c | c
  ·exact mx (L:=dx) c (by omega) (a:=1) (b:=1) (by omega) (by omega) (by decide) (by decide) (by decide)
  ·exact mx (L:=-dx) (by omega) (by omega) (a:=-1) (b:=-1) (by omega) (by omega) (by decide) (by decide) (by decide)
theorem plane_side {ns:List Int} (h:FaultIs ns none) (i:Nat):∃ a b L:Int,0 < L/\planeM (trisOf ns) i=(a,b,0,a*(atC (trisOf ns) i).1+b*(atC (trisOf ns) i).2.1)/\B1 a/\B1 b/\-runY (trisOf ns) i=a*L/\runX (trisOf ns) i=b*L/\(a*a+b*b=1\/a*a+b*b=2):=by
 obtain ⟨F,_,_⟩:=fine_of h
 have d:=F.pol.dir i
 have e:=corner_tri h i
 have e1:=corner_tri h (i+1)
 unfold Wm.dirC at d
 simp at d
 have q:(runX (trisOf ns) i=0/\runY (trisOf ns) i≠0)\/(runX (trisOf ns) i≠0/\runY (trisOf ns) i=0)\/(runX (trisOf ns) i≠0/\runX (trisOf ns) i=runY (trisOf ns) i)\/(runX (trisOf ns) i≠0/\runX (trisOf ns) i=-runY (trisOf ns) i):=by
  unfold runX runY
  rw [← e.1,← e.2,← e1.1,← e1.2]
  grind
 obtain ⟨a,b,L,hL,ha,hb,h1,h2,h3,h4,h5⟩:=quot_dirs q
 refine ⟨a,b,L,hL,?_,h1,h2,h3,h4,h5⟩
 unfold planeM planeA planeB
 rw [ha,hb]
theorem planes_at {ns:List Int} (w:Nat) (hw:w < (trisOf ns).length+2):plAt (planesM ns) w=if w < (trisOf ns).length then planeM (trisOf ns) w else if w=(trisOf ns).length then (0,0,1,0) else (0,0,-1,-ns.getD 0 0):=by
 unfold plAt planesM
 rw [List.getD_eq_getElem?_getD]
 by_cases c:w < (trisOf ns).length
 ·rw [List.getElem?_append_left (by simpa using c),List.getElem?_map,List.getElem?_range c,if_pos c]
  rfl
 ·rw [List.getElem?_append_right (by simpa using c),if_neg c]
  simp only [List.length_map,List.length_range]
  by_cases d:w=(trisOf ns).length
  ·rw [if_pos d,d]
   simp
  ·rw [if_neg d]
   have:w - (trisOf ns).length=1:=by omega
   rw [this]
   rfl
theorem planes_len (ns:List Int):(planesM ns).length=(trisOf ns).length+2:=by simp [planesM]
theorem b1z:B1 0:=⟨by decide,by decide⟩
theorem b1p:B1 1:=⟨by decide,by decide⟩
theorem b1n:B1 (-1):=⟨by decide,by decide⟩
theorem pls_ok {ns:List Int} (h:FaultIs ns none):PlsOk (planesM ns):=by
 obtain ⟨F,hn,l1⟩:=fine_of h
 obtain ⟨lo,hd,_⟩:=fault_none h
 have hd0:=hd.1
 refine ⟨?_,fun p hp=>?_⟩
 ·rw [planes_len,tris_len]
  have:=lo.2.2
  omega
 ·obtain ⟨w,hw,e⟩:=List.getElem_of_mem hp
  have e2:plAt (planesM ns) w=p:=by
   have:=plAt_get hw
   rw [List.getElem?_eq_getElem hw,e] at this
   exact (Option.some.inj this).symm
  rw [planes_len] at hw
  rw [← e2,planes_at w hw]
  by_cases c:w < (trisOf ns).length
  ·rw [if_pos c]
   obtain ⟨a,b,L,hL,he,h1,h2,_,_,h5⟩:=plane_side h w
   rw [he]
   have ec:=corner_tri h w
   have bx:=F.hx w
   have by_:=F.hy w
   rw [ec.1] at bx
   rw [ec.2] at by_
   refine ⟨h1,h2,b1z,?_,?_⟩
   ·have m1:=small_mul (x:=(atC (trisOf ns) w).1) h1
    have m2:=small_mul (x:=(atC (trisOf ns) w).2.1) h2
    show (a*(atC (trisOf ns) w).1+b*(atC (trisOf ns) w).2.1).natAbs<=8190
    omega
   ·show a*a+b*b+0*0=1\/a*a+b*b+0*0=2
    omega
  ·rw [if_neg c]
   by_cases d:w=(trisOf ns).length
   ·rw [if_pos d]
    exact ⟨b1z,b1z,b1p,by decide,.inl rfl⟩
   ·rw [if_neg d]
    exact ⟨b1z,b1z,b1n,by show (-ns.getD 0 0).natAbs<=8190; omega,.inl rfl⟩
def wh (p:Tri):Whole:=⟨p.1,p.2.1,p.2.2⟩
abbrev ptT (p:Tri):Pt:=(wh p).pt
theorem height_eq {ns:List Int} (h:FaultIs ns none) {w:Nat} (hw:w < (trisOf ns).length+2):∃ L:Rat,0 < L/\∀ p:Tri,Wm.Hq (Wm.theRoom ns) w (ptT p)=L*((heightM (plAt (planesM ns) w) p:Int):Rat):=by
 obtain ⟨F,hn,l1⟩:=fine_of h
 have tl:=tris_len ns
 rw [planes_at w hw]
 by_cases c:w < (trisOf ns).length
 ·obtain ⟨a,b,L,hL,he,_,_,h3,h4,_⟩:=plane_side h w
  refine ⟨L,by exact_mod_cast hL,fun p=>?_⟩
  rw [if_pos c,he]
  unfold Wm.Hq
  rw [if_pos (by omega)]
  have ec:=corner_tri h w
  have ec1:=corner_tri h (w+1)
  unfold Wm.lfP Wm.lfR heightM
  unfold runY at h3
  unfold runX at h4
  rw [← ec.1,← ec1.1] at h4
  rw [← ec.2,← ec1.2] at h3
  simp only
  rw [← ec.1,← ec.2]
  have h3r:-(((((Wm.theRoom ns).corner (w+1)).y:Int):Rat) - (((Wm.theRoom ns).corner w).y:Int))=(a:Rat)*L:=by
   rw [← Rat.intCast_sub,← Rat.intCast_neg,h3,Rat.intCast_mul]
  have h4r:((((Wm.theRoom ns).corner (w+1)).x:Int):Rat) - (((Wm.theRoom ns).corner w).x:Int)=(b:Rat)*L:=by
   rw [← Rat.intCast_sub,h4,Rat.intCast_mul]
  show _*(((p.2.1:Int):Rat) - _) - _*(((p.1:Int):Rat) - _)=_
  rw [h4r]
  have h3r':((((Wm.theRoom ns).corner (w+1)).y:Int):Rat) - (((Wm.theRoom ns).corner w).y:Int)=-((a:Rat)*L):=by grind
  rw [h3r']
  simp
  grind
 ·rw [if_neg c]
  refine ⟨1,by decide,fun p=>?_⟩
  unfold Wm.Hq
  rw [if_neg (by omega)]
  by_cases d:w=(trisOf ns).length
  ·rw [if_pos d,if_pos (by omega)]
   unfold heightM
   show ((p.2.2:Int):Rat)=_
   simp
  ·rw [if_neg d,if_neg (by omega)]
   unfold heightM
   show ((ns.getD 0 0:Int):Rat) - ((p.2.2:Int):Rat)=_
   simp
   grind
theorem mirror_eq {ns:List Int} (h:FaultIs ns none) {w:Nat} (hw:w < (trisOf ns).length+2) (p:Tri):Wm.mirW (Wm.theRoom ns) w (wh p)=wh (mirrorM (plAt (planesM ns) w) p):=by
 obtain ⟨F,hn,l1⟩:=fine_of h
 have tl:=tris_len ns
 rw [planes_at w hw]
 unfold Wm.mirW
 by_cases c:w < (trisOf ns).length
 ·rw [if_pos c,if_pos (by omega)]
  obtain ⟨a,b,L,hL,he,ha,hb,h3,h4,h5⟩:=plane_side h w
  rw [he]
  have D:=Wm.dirs F w
  simp only at D
  have ec:=corner_tri h w
  have ec1:=corner_tri h (w+1)
  unfold runY at h3
  unfold runX at h4
  rw [← ec.1,← ec1.1] at h4
  rw [← ec.2,← ec1.2] at h3
  rw [← ec.1,← ec.2]
  generalize (Wm.theRoom ns).corner w=u at *
  generalize (Wm.theRoom ns).corner (w+1)=v at *
  unfold mirrorM stepsM heightM squareM wh
  unfold B1 at ha hb
  obtain ⟨x,y,z⟩:=p
  simp only
  have cb:b=-1\/b=0\/b=1:=by omega
  have ca:a=-1\/a=0\/a=1:=by omega
  rcases D with ⟨d1,d2⟩ | ⟨d1,d2⟩ | ⟨d1,d2,d3⟩ | ⟨d1,d2,d3,d4⟩
  ·rw [if_pos d1]
   rcases ca with rfl | rfl | rfl <;> rcases cb with rfl | rfl | rfl <;> simp at h5 h3 h4 ⊢ <;> omega
  ·rw [if_neg d1,if_pos d2]
   rcases ca with rfl | rfl | rfl <;> rcases cb with rfl | rfl | rfl <;> simp at h5 h3 h4 ⊢ <;> omega
  ·rw [if_neg d1,if_neg d2,if_pos d3]
   rcases ca with rfl | rfl | rfl <;> rcases cb with rfl | rfl | rfl <;> simp at h5 h3 h4 ⊢ <;> omega
  ·rw [if_neg d1,if_neg d2,if_neg d3]
   rcases ca with rfl | rfl | rfl <;> rcases cb with rfl | rfl | rfl <;> simp at h5 h3 h4 ⊢ <;> omega
 ·rw [if_neg c,if_neg (by omega)]
  obtain ⟨x,y,z⟩:=p
  by_cases d:w=(trisOf ns).length
  ·rw [if_pos d,if_pos (by omega)]
   unfold mirrorM stepsM heightM squareM wh
   simp
   omega
  ·rw [if_neg d,if_neg (by omega)]
   unfold mirrorM stepsM heightM squareM wh Wm.theRoom
   simp
   omega
end Gn
namespace Gn
open Eh
def Times (k:Int) (p:Tri) (X Y:Rat):Prop:=((p.1:Int):Rat)=X*k/\((p.2.1:Int):Rat)=Y*k
theorem side_q {k:Int} {a b p:Tri} {ax ay bx by_ X Y:Rat} (ha:Times k a ax ay) (hb:Times k b bx by_) (hp:Times k p X Y):((side a b p:Int):Rat)=(k:Rat)*k*Wm.lfR ax ay bx by_ X Y:=by
 unfold side Wm.lfR
 obtain ⟨a1,a2⟩:=ha
 obtain ⟨b1,b2⟩:=hb
 obtain ⟨p1,p2⟩:=hp
 simp
 rw [a1,a2,b1,b2,p1,p2]
 grind
theorem kk {k:Int} (h:0 < k):(0:Rat) < (k:Rat)*k:=by
 have:(0:Rat) < k:=by exact_mod_cast h
 exact Rat.mul_pos this this
theorem sgn_q {k:Int} (hk:0 < k) {z:Int} {L:Rat} (e:(z:Rat)=(k:Rat)*k*L):(0 < z↔0 < L)/\(z < 0↔L < 0)/\(z=0↔L=0):=by
 have h:=kk hk
 have c1:0 < z↔(0:Rat) < z:=by
  constructor
  ·intro y; exact_mod_cast y
  ·intro y; exact_mod_cast y
 have c2:z < 0↔(z:Rat) < 0:=by
  constructor
  ·intro y; exact_mod_cast y
  ·intro y; exact_mod_cast y
 have c3:z=0↔(z:Rat)=0:=by
  constructor
  ·intro y; exact_mod_cast y
  ·intro y; exact_mod_cast y
 rw [c1,c2,c3,e]
 generalize (k:Rat)*k=m at h
 refine ⟨⟨fun y=>Wm.pos_of_mul h y,fun y=>Rat.mul_pos h y⟩,⟨fun y=>Wm.neg_of_mul' h y,fun y=>?_⟩,⟨fun y=>?_,fun y=>by rw [y]; grind⟩⟩
 ·have:=Rat.mul_pos h (show 0 < -L by grind)
  grind
 ·rcases Rat.mul_eq_zero.mp y with x | x
  ·grind
  ·exact x
theorem le_q {k:Int} (hk:0 < k) {a p:Int} {u v:Rat} (ha:(a:Rat)=u*k) (hp:(p:Rat)=v*k):(a<=p↔u<=v)/\(a < p↔u < v)/\(a=p↔u=v):=by
 have h:(0:Rat) < k:=by exact_mod_cast hk
 have c1:a<=p↔(a:Rat)<=p:=by
  constructor
  ·intro y; exact_mod_cast y
  ·intro y; exact_mod_cast y
 have c2:a < p↔(a:Rat) < p:=by
  constructor
  ·intro y; exact_mod_cast y
  ·intro y; exact_mod_cast y
 have c3:a=p↔(a:Rat)=p:=by
  constructor
  ·intro y; exact_mod_cast y
  ·intro y; exact_mod_cast y
 rw [c1,c2,c3,ha,hp]
 generalize (k:Rat)=m at h
 have lt:∀ {x y:Rat},x*m < y*m↔x < y:=fun {x y}=>by
  constructor
  ·intro z
   rcases (show x < y\/y<=x by grind) with q | q
   ·exact q
   ·have:=Wm.mnn (show 0<=x - y by grind) (show 0<=m by grind)
    grind
  ·intro z
   have:=Rat.mul_pos (show 0 < y - x by grind) h
   grind
 refine ⟨⟨fun z=>?_,fun z=>?_⟩,lt,⟨fun z=>?_,fun z=>by rw [z]⟩⟩
 ·rcases (show u<=v\/v < u by grind) with q | q
  ·exact q
  ·have:=lt.mpr q
   grind
 ·rcases (show u*m<=v*m\/v*m < u*m by grind) with q | q
  ·exact q
  ·have:=lt.mp q
   grind
 ·rcases (show u < v\/u=v\/v < u by grind) with q | q | q
  ·have:=lt.mpr q
   grind
  ·exact q
  ·have:=lt.mpr q
   grind
theorem rng_pt (a b p:Int):max (min a b) (min p p)<=min (max a b) (max p p)↔(a<=p\/b<=p)/\(p<=a\/p<=b):=by
 have s:min a b<=max a b:=Int.le_trans (Int.min_le_left a b) (Int.le_max_left a b)
 rw [Int.min_self,Int.max_self,Int.max_le,Int.le_min,Int.le_min]
 exact ⟨fun h=>⟨Std.min_le.mp h.1.2,Std.le_max.mp h.2.1⟩,fun h=>⟨⟨s,Std.min_le.mpr h.1⟩,Std.le_max.mpr h.2,Int.le_refl p⟩⟩
theorem rmax {a b c:Rat}:a<=max b c↔a<=b\/a<=c:=by grind
theorem meet_q {k:Int} (hk:0 < k) {a b p:Tri} {ax ay bx by_ X Y:Rat} (ne:ax≠bx\/ay≠by_) (ha:Times k a ax ay) (hb:Times k b bx by_) (hp:Times k p X Y):meetM a b p p↔Wm.OnQ ax ay bx by_ X Y:=by
 have s:=(sgn_q hk (side_q ha hb hp)).2.2
 have x1:=(le_q hk ha.1 hp.1).1
 have x2:=(le_q hk hb.1 hp.1).1
 have x3:=(le_q hk hp.1 ha.1).1
 have x4:=(le_q hk hp.1 hb.1).1
 have y1:=(le_q hk ha.2 hp.2).1
 have y2:=(le_q hk hb.2 hp.2).1
 have y3:=(le_q hk hp.2 ha.2).1
 have y4:=(le_q hk hp.2 hb.2).1
 have sq:side a b p*side a b p<=0↔side a b p=0:=by
  generalize side a b p=z
  constructor
  ·intro h
   rcases (show z=0\/z < 0\/0 < z by omega) with c | c | c
   ·exact c
   ·have:=Int.mul_pos_of_neg_of_neg c c
    omega
   ·have:=Int.mul_pos c c
    omega
  ·intro h
   rw [h]
   decide
 have s0:side p p a*side p p b<=0:=by
  unfold side
  simp
 have m:meetM a b p p↔((a.1<=p.1\/b.1<=p.1)/\(p.1<=a.1\/p.1<=b.1))/\((a.2.1<=p.2.1\/b.2.1<=p.2.1)/\(p.2.1<=a.2.1\/p.2.1<=b.2.1))/\side a b p=0:=by
  unfold meetM rangesM co
  rw [sq]
  simp only [if_true,show ¬ ((1:Nat)=0) by decide,if_false]
  constructor
  ·rintro ⟨h1,h2,h3,_⟩
   exact ⟨(rng_pt _ _ _).mp h1,(rng_pt _ _ _).mp h2,h3⟩
  ·rintro ⟨h1,h2,h3⟩
   exact ⟨(rng_pt _ _ _).mpr h1,(rng_pt _ _ _).mpr h2,h3,s0⟩
 rw [m,x1,x2,x3,x4,y1,y2,y3,y4,s]
 constructor
 ·rintro ⟨h1,h2,h3⟩
  exact Wm.on_of ne h3 ⟨Std.min_le.mpr h1.1,rmax.mpr h1.2⟩ ⟨Std.min_le.mpr h2.1,rmax.mpr h2.2⟩
 ·intro h
  have l:=Wm.lf_on h
  obtain ⟨t,t0,t1,e1,e2⟩:=h
  have a1:=Wm.on_range t0 t1 e1
  have a2:=Wm.on_range t0 t1 e2
  exact ⟨⟨Std.min_le.mp a1.1,rmax.mp a1.2⟩,⟨Std.min_le.mp a2.1,rmax.mp a2.2⟩,l⟩
theorem ahead_q {k:Int} (hk:0 < k) {a b p:Tri} {ax ay bx by_ X Y:Rat} (ha:Times k a ax ay) (hb:Times k b bx by_) (hp:Times k p X Y):aheadM a b p↔(ay<=Y/\Y < by_/\0 < Wm.lfR ax ay bx by_ X Y)\/(by_<=Y/\Y < ay/\Wm.lfR ax ay bx by_ X Y < 0):=by
 have s:=sgn_q hk (side_q ha hb hp)
 unfold aheadM
 rw [s.1,s.2.1,(le_q hk ha.2 hp.2).1,(le_q hk hp.2 hb.2).2.1,(le_q hk hb.2 hp.2).1,(le_q hk hp.2 ha.2).2.1]
def Big (ns:List Int) (k:Int) (C:List Tri):Prop:=C.length=(trisOf ns).length/\∀ i,Times k (atC C i) ((Wm.theRoom ns).corner i).x ((Wm.theRoom ns).corner i).y
theorem big_one {ns:List Int} (h:FaultIs ns none):Big ns 1 (trisOf ns):=by
 refine ⟨rfl,fun i=>?_⟩
 have e:=corner_tri h i
 refine ⟨?_,?_⟩
 ·rw [← e.1]
  simp
 ·rw [← e.2]
  simp
theorem times_enl {ns:List Int} (h:FaultIs ns none) (k:Int) (i:Nat):Times k (enl (atC (trisOf ns) i) k) ((Wm.theRoom ns).corner i).x ((Wm.theRoom ns).corner i).y:=by
 have e:=corner_tri h i
 unfold Times enl
 rw [e.1,e.2]
 simp
theorem big_enl {ns:List Int} (h:FaultIs ns none) (k:Int):Big ns k (enlM (trisOf ns) k):=by
 refine ⟨enlM_len _ _,fun i=>?_⟩
 rw [enlM_at (tris_ne (fault_none h).1)]
 exact times_enl h k i
theorem within_q {ns:List Int} (h:FaultIs ns none) {k:Int} (hk:0 < k) {C:List Tri} (hC:Big ns k C) {p:Tri} {P:Pt} (hp:Times k p P.x P.y):withinM C p↔(Wm.theRoom ns).within P=true:=by
 obtain ⟨F,hn,l1⟩:=fine_of h
 have tl:=tris_len ns
 have nl:C.length=(Wm.theRoom ns).n:=by rw [hC.1,tl,hn]
 have m:∀ i,meetM (atC C i) (atC C (i+1)) p p↔Wm.OnP (Wm.theRoom ns).corner i P.x P.y:=fun i=>meet_q hk (F.pol.ne i) (hC.2 i) (hC.2 (i+1)) hp
 have a:∀ i,decide (aheadM (atC C i) (atC C (i+1)) p)=crosses P ((Wm.theRoom ns).line i):=fun i=>by
  have k1:=ahead_q hk (hC.2 i) (hC.2 (i+1)) hp
  have cr:crosses P ((Wm.theRoom ns).line i)=(if (((Wm.theRoom ns).corner i).y:Rat)<=P.y/\P.y < ((Wm.theRoom ns).corner (i+1)).y then decide (0 < Wm.lfP (Wm.theRoom ns).corner i P.x P.y) else if (((Wm.theRoom ns).corner (i+1)).y:Rat)<=P.y/\P.y < ((Wm.theRoom ns).corner i).y then decide (Wm.lfP (Wm.theRoom ns).corner i P.x P.y < 0) else false):=rfl
  rw [cr]
  by_cases c:(((Wm.theRoom ns).corner i).y:Rat)<=P.y/\P.y < ((Wm.theRoom ns).corner (i+1)).y
  ·rw [if_pos c,decide_eq_decide,k1]
   constructor
   ·rintro (y | y)
    ·exact y.2.2
    ·grind
   ·intro y
    exact .inl ⟨c.1,c.2,y⟩
  ·rw [if_neg c]
   by_cases d:(((Wm.theRoom ns).corner (i+1)).y:Rat)<=P.y/\P.y < ((Wm.theRoom ns).corner i).y
   ·rw [if_pos d,decide_eq_decide,k1]
    constructor
    ·rintro (y | y)
     ·exact absurd ⟨y.1,y.2.1⟩ c
     ·exact y.2.2
    ·intro y
     exact .inr ⟨d.1,d.2,y⟩
   ·rw [if_neg d]
    refine decide_eq_false fun z=>?_
    rcases k1.mp z with y | y
    ·exact c ⟨y.1,y.2.1⟩
    ·exact d ⟨y.1,y.2.1⟩
 unfold withinM Room.within Room.lines
 rw [Bool.and_eq_true,Bool.not_eq_true',← Bool.not_eq_true,List.any_eq_true,beq_iff_eq,List.filter_map,List.length_map,nl]
 have e:(List.range (Wm.theRoom ns).n).filter (fun i=>decide (aheadM (atC C i) (atC C (i+1)) p))=(List.range (Wm.theRoom ns).n).filter (crosses P ∘ (Wm.theRoom ns).line):=by
  congr 1
  funext i
  exact a i
 rw [e]
 constructor
 ·rintro ⟨h1,h2⟩
  refine ⟨?_,h2⟩
  rintro ⟨l,hl,o⟩
  obtain ⟨i,hi,rfl⟩:=List.mem_map.mp hl
  exact h1 i (List.mem_range.mp hi) ((m i).mpr ((Wm.onLine_iff F i P).mp o))
 ·rintro ⟨h1,h2⟩
  refine ⟨fun i hi o=>h1 ⟨_,List.mem_map.mpr ⟨i,List.mem_range.mpr hi,rfl⟩,(Wm.onLine_iff F i P).mpr ((m i).mp o)⟩,h2⟩
theorem inside_eq {ns:List Int} (h:FaultIs ns none) (x y z:Int):Wm.insideB (Wm.theRoom ns) ⟨x,y,z⟩=true↔insideM ns (x,y,z):=by
 unfold Wm.insideB insideM
 rw [Wm.inside_iff,within_q h (by decide) (big_one h) (P:=Whole.pt ⟨x,y,z⟩) (p:=(x,y,z)) ⟨by show (x:Rat)=(x:Rat)*((1:Int):Rat); simp,by show (y:Rat)=(y:Rat)*((1:Int):Rat); simp⟩]
 have e1:(0:Rat) < (Whole.pt ⟨x,y,z⟩).z↔0 < z:=by
  show (0:Rat) < (z:Rat)↔0 < z
  constructor
  ·intro q; exact_mod_cast q
  ·intro q; exact_mod_cast q
 have e2:(Whole.pt ⟨x,y,z⟩).z < ((Wm.theRoom ns).h:Rat)↔z < ns.getD 0 0:=Rat.intCast_lt_intCast
 rw [e1,e2]
 exact and_comm
theorem inside_pb {ns:List Int} {p:Tri} (h:FaultIs ns none) (hi:insideM ns p):Pb p 4095:=by
 obtain ⟨F,hn,l1⟩:=fine_of h
 have hd:=(fault_none h).2.1.1
 have wi:=(within_q h (by decide) (big_one h) (P:=ptT p) (p:=p) ⟨by show ((p.1:Int):Rat)=((p.1:Int):Rat)*((1:Int):Rat); simp,by show ((p.2.1:Int):Rat)=((p.2.1:Int):Rat)*((1:Int):Rat); simp⟩).mp hi.2
 have hw:=(Wm.within_iff F _).mp wi
 -- some line lies west
 have west:∃ j,j < (Wm.theRoom ns).n/\Wm.cwP (Wm.theRoom ns).corner j (ptT p).x (ptT p).y≠0:=by
  refine Classical.byContradiction fun z=>?_
  have:Wm.SP (Wm.theRoom ns).corner (Wm.theRoom ns).n (ptT p).x (ptT p).y=0:=by
   unfold Wm.SP
   rw [Wm.sm_congr (g:=fun _=>0) fun j hj=>Classical.byContradiction fun y=>z ⟨j,hj,y⟩,Wm.sm_zero]
  rw [this] at hw
  exact absurd hw.2 (by decide)
 -- some line lies ahead
 have odd:=(within_q h (by decide) (big_one h) (P:=ptT p) (p:=p) ⟨by show ((p.1:Int):Rat)=((p.1:Int):Rat)*((1:Int):Rat); simp,by show ((p.2.1:Int):Rat)=((p.2.1:Int):Rat)*((1:Int):Rat); simp⟩).mpr wi
 have ahead:∃ j,aheadM (atC (trisOf ns) j) (atC (trisOf ns) (j+1)) p:=by
  refine Classical.byContradiction fun z=>?_
  have:((List.range (trisOf ns).length).filter fun i=>decide (aheadM (atC (trisOf ns) i) (atC (trisOf ns) (i+1)) p))=[]:=by
   rw [List.filter_eq_nil_iff]
   intro i _ y
   exact z ⟨i,by simpa using y⟩
  have o:=odd.2
  rw [this] at o
  simp at o
 have ci:∀ i,(0<=(atC (trisOf ns) i).1/\(atC (trisOf ns) i).1<=4095)/\(0<=(atC (trisOf ns) i).2.1/\(atC (trisOf ns) i).2.1<=4095):=fun i=>by
  have e:=corner_tri h i
  have a:=F.hx i
  have b:=F.hy i
  rw [e.1] at a
  rw [e.2] at b
  exact ⟨a,b⟩
 obtain ⟨j,hj,hc⟩:=west
 obtain ⟨j',ha⟩:=ahead
 have c1:=ci j'
 have c2:=ci (j'+1)
 have hy:0<=p.2.1/\p.2.1<=4095:=by
  unfold aheadM at ha
  omega
 have hx1:p.1<=4095:=by
  refine Classical.byContradiction fun z=>?_
  generalize atC (trisOf ns) j'=a at *
  generalize atC (trisOf ns) (j'+1)=b at *
  obtain ⟨px,py,pz⟩:=p
  obtain ⟨ax,ay,az⟩:=a
  obtain ⟨bx,by_,bz⟩:=b
  unfold aheadM side at ha
  simp only at *
  rcases ha with ⟨h1,h2,h3⟩ | ⟨h1,h2,h3⟩
  ·have k1:(bx - px)*(py - ay)<=0:=by
    have:=Int.mul_nonneg (show 0<=px - bx by omega) (show 0<=py - ay by omega)
    grind
   have k2:0 < (px - ax)*(by_ - py):=Int.mul_pos (by omega) (by omega)
   grind
  ·have k1:0<=(px - bx)*(ay - py):=Int.mul_nonneg (by omega) (by omega)
   have k2:0<=(px - ax)*(py - by_):=Int.mul_nonneg (by omega) (by omega)
   grind
 have hx0:0<=p.1:=by
  refine Classical.byContradiction fun z=>?_
  have d1:=F.hx j
  have d2:=F.hx (j+1)
  have r0:∀ {z:Int},0<=z->(0:Rat)<=z:=fun y=>by exact_mod_cast y
  have xn:(ptT p).x < 0:=by
   show ((p.1:Int):Rat) < 0
   exact_mod_cast (show p.1 < 0 by omega)
  have u1:=r0 d1.1
  have u2:=r0 d2.1
  apply hc
  unfold Wm.cwP Wm.cw
  generalize (((Wm.theRoom ns).corner j).x:Rat)=ax at *
  generalize (((Wm.theRoom ns).corner (j+1)).x:Rat)=bx at *
  generalize (((Wm.theRoom ns).corner j).y:Rat)=ay at *
  generalize (((Wm.theRoom ns).corner (j+1)).y:Rat)=by_ at *
  generalize (ptT p).x=X at *
  generalize (ptT p).y=Y at *
  by_cases c:ay<=Y/\Y < by_
  ·rw [if_pos c,if_neg ?_]
   unfold Wm.lfR
   have k1:=Wm.mnn (show 0<=bx - X by grind) (show 0<=Y - ay by grind)
   have k2:=Wm.mnn (show 0<=ax - X by grind) (show 0<=by_ - Y by grind)
   grind
  ·rw [if_neg c]
   by_cases d:by_<=Y/\Y < ay
   ·rw [if_pos d,if_neg ?_]
    unfold Wm.lfR
    have k1:=Wm.mnn (show 0<=bx - X by grind) (show 0<=ay - Y by grind)
    have k2:=Wm.mnn (show 0<=ax - X by grind) (show 0<=Y - by_ by grind)
    grind
   ·rw [if_neg d]
 have hz:=hi.1
 exact ⟨by omega,by omega,by omega⟩
end Gn
namespace Gn
open Eh
def qpt (q:Qd):Pt:=⟨(q.1:Rat) / q.2.2.2,(q.2.1:Rat) / q.2.2.2,(q.2.2.1:Rat) / q.2.2.2⟩
theorem qpt_mul {q:Qd} (h:0 < q.2.2.2):(qpt q).x*q.2.2.2=q.1/\(qpt q).y*q.2.2.2=q.2.1/\(qpt q).z*q.2.2.2=q.2.2.1:=by
 have:(q.2.2.2:Rat)≠0:=by
  intro z
  have:q.2.2.2=0:=by exact_mod_cast z
  omega
 exact ⟨Rat.div_mul_cancel this,Rat.div_mul_cancel this,Rat.div_mul_cancel this⟩
theorem times_xy {q:Qd} (h:0 < q.2.2.2):Times q.2.2.2 (xyOf q) (qpt q).x (qpt q).y:=⟨(qpt_mul h).1.symm,(qpt_mul h).2.1.symm⟩
theorem qpt_pt (p:Tri):qpt (ptOf p)=ptT p:=by
 have:∀ z:Int,(z:Rat) / ((1:Int):Rat)=z:=fun z=>by
  rw [show ((1:Int):Rat)=1 by rfl]
  grind
 show (⟨_,_,_⟩:Pt)=⟨_,_,_⟩
 rw [Pt.mk.injEq]
 exact ⟨this _,this _,this _⟩
theorem in_iff {ax ay bx by_ X Y:Rat} (ne:ax≠bx\/ay≠by_):Wm.OnO ax ay bx by_ X Y↔Wm.OnQ ax ay bx by_ X Y/\¬ (X=ax/\Y=ay)/\¬ (X=bx/\Y=by_):=by
 constructor
 ·intro h
  exact ⟨h.on,(h.not_end ne).1,(h.not_end ne).2⟩
 ·rintro ⟨⟨t,t0,t1,e1,e2⟩,n1,n2⟩
  refine ⟨t,?_,?_,e1,e2⟩
  ·rcases (show t=0\/0 < t by grind) with y | y
   ·subst y
    exact absurd ⟨by rw [e1]; grind,by rw [e2]; grind⟩ n1
   ·exact y
  ·rcases (show t=1\/t < 1 by grind) with y | y
   ·subst y
    exact absurd ⟨by rw [e1]; grind,by rw [e2]; grind⟩ n2
   ·exact y
theorem xy_eq {k:Int} (hk:0 < k) {p q:Tri} {X Y U V:Rat} (hp:Times k p X Y) (hq:Times k q U V) (zp:p.2.2=0) (zq:q.2.2=0):p=q↔X=U/\Y=V:=by
 rw [← (le_q hk hp.1 hq.1).2.2,← (le_q hk hp.2 hq.2).2.2]
 obtain ⟨a,b,c⟩:=p
 obtain ⟨d,e,f⟩:=q
 simp only at *
 subst zp zq
 simp
theorem open_eq {ns:List Int} (h:FaultIs ns none) {w:Nat} {q:Qd} (hq:0 < q.2.2.2) (hz:¬ w < (Wm.theRoom ns).n->(qpt q).z=if w=(Wm.theRoom ns).n then 0 else ((Wm.theRoom ns).h:Rat)):openM ns w q↔(Wm.theRoom ns).inWall w (qpt q)=true:=by
 obtain ⟨F,hn,l1⟩:=fine_of h
 have tl:=tris_len ns
 unfold openM
 by_cases c:(trisOf ns).length<=w
 ·have c':¬ w < (Wm.theRoom ns).n:=by omega
  rw [if_pos c,Wm.inWall_flat c',within_q h hq (big_enl h _) (times_xy hq)]
  exact ⟨fun y=>⟨y,hz c'⟩,fun y=>y.1⟩
 ·have c':w < (Wm.theRoom ns).n:=by omega
  rw [if_neg c,Wm.inWall_side F c',meet_q hq (F.pol.ne w) (times_enl h _ w) (times_enl h _ (w+1)) (times_xy hq),xy_eq hq (times_xy hq) (times_enl h _ w) rfl rfl,xy_eq hq (times_xy hq) (times_enl h _ (w+1)) rfl rfl]
  unfold Wm.InP
  rw [in_iff (F.pol.ne w)]
  have z1:0 < q.2.2.1↔0 < (qpt q).z:=by
   have k:=(le_q hq (a:=0) (p:=q.2.2.1) (u:=0) (v:=(qpt q).z) (by simp) (qpt_mul hq).2.2.symm).2.1
   exact k
  have z2:q.2.2.1 < ns.getD 0 0*q.2.2.2↔(qpt q).z < (Wm.theRoom ns).h:=by
   have k:=(le_q hq (a:=q.2.2.1) (p:=ns.getD 0 0*q.2.2.2) (u:=(qpt q).z) (v:=((ns.getD 0 0:Int):Rat)) (qpt_mul hq).2.2.symm (by simp)).2.1
   exact k
  rw [z1,z2]
theorem clear_eq {ns:List Int} (h:FaultIs ns none) {s e:Qd} (hs:0 < s.2.2.2) (he:0 < e.2.2.2):clearM (trisOf ns) s e↔Wm.CutF (Wm.theRoom ns) (qpt s) (qpt e):=by
 obtain ⟨F,hn,l1⟩:=fine_of h
 have tl:=tris_len ns
 have hk:0 < s.2.2.2*e.2.2.2:=Int.mul_pos hs he
 have ms:=qpt_mul hs
 have me:=qpt_mul he
 have t1:Times (s.2.2.2*e.2.2.2) (legA s e) (qpt s).x (qpt s).y:=by
  unfold Times legA
  simp
  constructor
  ·rw [← ms.1]
   grind
  ·rw [← ms.2.1]
   grind
 have t2:Times (s.2.2.2*e.2.2.2) (legA e s) (qpt e).x (qpt e).y:=by
  unfold Times legA
  simp
  constructor
  ·rw [← me.1]
   grind
  ·rw [← me.2.1]
   grind
 have pr_lt:∀ {z y:Int} {L M:Rat},(z:Rat)=((s.2.2.2*e.2.2.2:Int):Rat)*((s.2.2.2*e.2.2.2:Int):Rat)*L->(y:Rat)=((s.2.2.2*e.2.2.2:Int):Rat)*((s.2.2.2*e.2.2.2:Int):Rat)*M->(z*y < 0↔L*M < 0)/\(z*y<=0↔L*M<=0):=fun {z y L M} e1 e2=>by
  have k:=kk hk
  generalize ((s.2.2.2*e.2.2.2:Int):Rat)*((s.2.2.2*e.2.2.2:Int):Rat)=m at *
  have e3:((z*y:Int):Rat)=(m*m)*(L*M):=by
   rw [Rat.intCast_mul,e1,e2]
   grind
  have mm:=Rat.mul_pos k k
  have c1:z*y < 0↔((z*y:Int):Rat) < 0:=by
   constructor
   ·intro w; exact_mod_cast w
   ·intro w; exact_mod_cast w
  have c2:z*y<=0↔((z*y:Int):Rat)<=0:=by
   constructor
   ·intro w; exact_mod_cast w
   ·intro w; exact_mod_cast w
  rw [c1,c2,e3]
  generalize m*m=u at mm
  constructor
  ·constructor
   ·intro w
    exact Wm.neg_of_mul' mm w
   ·intro w
    have:=Rat.mul_pos mm (show 0 < -(L*M) by grind)
    grind
  ·constructor
   ·intro w
    rcases (show L*M<=0\/0 < L*M by grind) with x | x
    ·exact x
    ·have:=Rat.mul_pos mm x
     grind
   ·intro w
    exact Wm.mnp (by grind) w
 unfold clearM Wm.CutF
 rw [tl,← hn]
 have key:∀ i,cutM (enl (atC (trisOf ns) i) (s.2.2.2*e.2.2.2)) (enl (atC (trisOf ns) (i+1)) (s.2.2.2*e.2.2.2)) (legA s e) (legA e s)↔Wm.CutR (Wm.theRoom ns).corner i (qpt s).x (qpt s).y (qpt e).x (qpt e).y:=fun i=>by
  have a:=times_enl h (s.2.2.2*e.2.2.2) i
  have b:=times_enl h (s.2.2.2*e.2.2.2) (i+1)
  unfold cutM Wm.CutR
  rw [(pr_lt (side_q a b t1) (side_q a b t2)).1,(pr_lt (side_q t1 t2 a) (side_q t1 t2 b)).2]
 constructor
 ·intro z i hi c
  exact z i hi ((key i).mpr c)
 ·intro z i hi c
  exact z i hi ((key i).mp c)
def imgI (ns:List Int) (st:Tri):List Nat->Tri
 | []=>st
 | w :: l=>mirrorM (plAt (planesM ns) w) (imgI ns st l)
def okR (ns:List Int) (st:Tri):List Nat->Prop
 | []=>True
 | w :: l=>0 < heightM (plAt (planesM ns) w) (imgI ns st l)/\okR ns st l
def inR (ns:List Int) (l:List Nat):Prop:=∀ w∈l,w < (trisOf ns).length+2
def hB (ns:List Int) (st E:Tri) (w:Nat) (l:List Nat):Int×Int:=(heightM (plAt (planesM ns) w) (imgI ns st l),heightM (plAt (planesM ns) w) E)
def tB (ns:List Int) (st E:Tri) (w:Nat) (l:List Nat):Qd:=partM (imgI ns st l) (mirrorM (plAt (planesM ns) w) E) (hB ns st E w l)
def GC (ns:List Int) (st:Tri):List Nat->Tri->Int×Int->Qd->Prop
 | [],_,_,q=>clearM (trisOf ns) (ptOf st) q
 | w :: l,E,h,q=>0 < (hB ns st E w l).2/\(hB ns st E w l).1*h.2 < h.1*(hB ns st E w l).2/\openM ns w (tB ns st E w l)/\clearM (trisOf ns) (tB ns st E w l) q/\GC ns st l (mirrorM (plAt (planesM ns) w) E) (hB ns st E w l) (tB ns st E w l)
theorem mirror_pt {ns:List Int} (h:FaultIs ns none) {w:Nat} (hw:w < (trisOf ns).length+2) (p:Tri):(Wm.theRoom ns).mirror w (ptT p)=ptT (mirrorM (plAt (planesM ns) w) p):=by
 rw [Wm.mir_pt,mirror_eq h hw]
theorem img_eq {ns:List Int} (h:FaultIs ns none) (st:Tri):∀ l,inR ns l->Wm.imgR (Wm.theRoom ns) (ptT st) l=ptT (imgI ns st l)
 | [],_=>rfl
 | w :: l,hl=>by
  show (Wm.theRoom ns).mirror w (Wm.imgR _ _ l)=_
  rw [img_eq h st l fun x hx=>hl x (List.mem_cons_of_mem _ hx),mirror_pt h (hl w (List.mem_cons_self ..))]
  rfl
theorem frac_eq {a b:Int} {L:Rat} (hL:0 < L) (hs:0 < a+b):(L*(a:Rat)) / (L*a+L*b)=(a:Rat) / ((a+b:Int):Rat):=by
 have h1:((a+b:Int):Rat)≠0:=by
  intro z
  have:a+b=0:=by exact_mod_cast z
  omega
 have h0:((a+b:Int):Rat)=(a:Rat)+b:=by simp
 have h2:L*(a:Rat)+L*b≠0:=by
  intro z
  have:L*((a+b:Int):Rat)=0:=by rw [h0]; grind
  rcases Rat.mul_eq_zero.mp this with y | y
  ·grind
  ·exact h1 y
 have k1:(L*(a:Rat)) / (L*a+L*b)*(L*a+L*b)=L*a:=Rat.div_mul_cancel h2
 have k2:(a:Rat) / ((a+b:Int):Rat)*((a+b:Int):Rat)=a:=Rat.div_mul_cancel h1
 refine Wm.mul_cancel h2 ?_
 generalize (L*(a:Rat)) / (L*a+L*b)=x at *
 generalize (a:Rat) / ((a+b:Int):Rat)=y at *
 rw [h0] at k2
 grind
theorem part_pt {s E:Tri} {h:Int×Int} (hs:0 < h.1+h.2):qpt (partM s E h)=onWay (ptT s) (ptT E) ((h.1:Rat) / ((h.1+h.2:Int):Rat)):=by
 have h1:((h.1+h.2:Int):Rat)≠0:=by
  intro z
  have:h.1+h.2=0:=by exact_mod_cast z
  omega
 have h0:((h.1+h.2:Int):Rat)=(h.1:Rat)+h.2:=by simp
 have k2:(h.1:Rat) / ((h.1+h.2:Int):Rat)*((h.1+h.2:Int):Rat)=h.1:=Rat.div_mul_cancel h1
 have co:∀ a b:Int,((a*h.2+b*h.1:Int):Rat) / ((h.1+h.2:Int):Rat)=(a:Rat)+(h.1:Rat) / ((h.1+h.2:Int):Rat)*((b:Rat) - a):=fun a b=>by
  have k1:((a*h.2+b*h.1:Int):Rat) / ((h.1+h.2:Int):Rat)*((h.1+h.2:Int):Rat)=((a*h.2+b*h.1:Int):Rat):=Rat.div_mul_cancel h1
  refine Wm.mul_cancel h1 ?_
  generalize (h.1:Rat) / ((h.1+h.2:Int):Rat)=t at *
  generalize ((a*h.2+b*h.1:Int):Rat) / ((h.1+h.2:Int):Rat)=u at *
  have e:((a*h.2+b*h.1:Int):Rat)=(a:Rat)*h.2+b*h.1:=by simp
  rw [e] at k1
  rw [h0] at k1 k2 ⊢
  grind
 show (⟨_,_,_⟩:Pt)=⟨_,_,_⟩
 rw [Pt.mk.injEq]
 exact ⟨co _ _,co _ _,co _ _⟩
theorem open_z {ns:List Int} (h:FaultIs ns none) {st E:Tri} {w:Nat} {l:List Nat} (hw:w < (trisOf ns).length+2) (b0:0 < (hB ns st E w l).1) (β0:0 < (hB ns st E w l).2) (hl:inR ns l) :
  qpt (tB ns st E w l)=Wm.turnPt (Wm.theRoom ns) (ptT st) (ptT E) w l/\Wm.turnAt (Wm.theRoom ns) (ptT st) (ptT E) w l=((hB ns st E w l).1:Rat) / (((hB ns st E w l).1+(hB ns st E w l).2:Int):Rat)/\Wm.Hq (Wm.theRoom ns) w (qpt (tB ns st E w l))=0:=by
 obtain ⟨F,hn,l1⟩:=fine_of h
 obtain ⟨L,hL,hh⟩:=height_eq h hw
 have ta:Wm.turnAt (Wm.theRoom ns) (ptT st) (ptT E) w l=((hB ns st E w l).1:Rat) / (((hB ns st E w l).1+(hB ns st E w l).2:Int):Rat):=by
  unfold Wm.turnAt
  rw [img_eq h st l hl,hh,hh]
  exact frac_eq hL (show 0 < (hB ns st E w l).1+(hB ns st E w l).2 by omega)
 have tp:qpt (tB ns st E w l)=Wm.turnPt (Wm.theRoom ns) (ptT st) (ptT E) w l:=by
  unfold tB Wm.turnPt
  rw [part_pt (by omega),ta,img_eq h st l hl,mirror_pt h hw]
 refine ⟨tp,ta,?_⟩
 have h1:(((hB ns st E w l).1+(hB ns st E w l).2:Int):Rat)≠0:=by
  intro z
  have:(hB ns st E w l).1+(hB ns st E w l).2=0:=by exact_mod_cast z
  omega
 have k2:((hB ns st E w l).1:Rat) / (((hB ns st E w l).1+(hB ns st E w l).2:Int):Rat)*(((hB ns st E w l).1+(hB ns st E w l).2:Int):Rat)=(hB ns st E w l).1:=Rat.div_mul_cancel h1
 have h0:(((hB ns st E w l).1+(hB ns st E w l).2:Int):Rat)=((hB ns st E w l).1:Rat)+(hB ns st E w l).2:=by simp
 rw [tp]
 unfold Wm.turnPt
 rw [Wm.Hq_way,ta,(Wm.mirror_all F w (ptT E)).1,img_eq h st l hl,hh,hh]
 have e1:heightM (plAt (planesM ns) w) (imgI ns st l)=(hB ns st E w l).1:=rfl
 have e2:heightM (plAt (planesM ns) w) E=(hB ns st E w l).2:=rfl
 rw [e1,e2]
 generalize ((hB ns st E w l).1:Rat) / (((hB ns st E w l).1+(hB ns st E w l).2:Int):Rat)=t at *
 rw [h0] at k2
 grind
theorem GC_eq {ns:List Int} (h:FaultIs ns none) {st:Tri}:∀ (l:List Nat) (E:Tri) (hh:Int×Int) (q:Qd),inR ns l->okR ns st l->0 < hh.1+hh.2->0 < q.2.2.2->(GC ns st l E hh q↔Wm.KR (Wm.theRoom ns) (ptT st) l (ptT E) ((hh.1:Rat) / ((hh.1+hh.2:Int):Rat)) (qpt q))
 | [],E,hh,q,_,_,_,hq=>by
  show clearM (trisOf ns) (ptOf st) q↔Wm.CutF _ (ptT st) (qpt q)
  rw [clear_eq h (show 0 < (ptOf st).2.2.2 from Int.one_pos) hq,qpt_pt]
 | w :: l,E,hh,q,hl,ok,hs,hq=>by
  obtain ⟨F,hn,l1⟩:=fine_of h
  have hw:=hl w (List.mem_cons_self ..)
  have hl':inR ns l:=fun x hx=>hl x (List.mem_cons_of_mem _ hx)
  obtain ⟨L,hL,hH⟩:=height_eq h hw
  have b0:0 < (hB ns st E w l).1:=ok.1
  have tl:=tris_len ns
  have pos:∀ p:Tri,0 < Wm.Hq (Wm.theRoom ns) w (ptT p)↔0 < heightM (plAt (planesM ns) w) p:=fun p=>by
   rw [hH]
   constructor
   ·intro z
    have:=Wm.pos_of_mul hL z
    exact_mod_cast this
   ·intro z
    exact Rat.mul_pos hL (by exact_mod_cast z)
  show (0 < (hB ns st E w l).2/\(hB ns st E w l).1*hh.2 < hh.1*(hB ns st E w l).2/\openM ns w (tB ns st E w l)/\clearM (trisOf ns) (tB ns st E w l) q/\GC ns st l (mirrorM (plAt (planesM ns) w) E) (hB ns st E w l) (tB ns st E w l))↔(0 < Wm.Hq (Wm.theRoom ns) w (Wm.imgR (Wm.theRoom ns) (ptT st) l)/\0 < Wm.Hq (Wm.theRoom ns) w (ptT E)/\_/\_/\_/\_)
  rw [img_eq h st l hl',pos,pos]
  by_cases β0:0 < (hB ns st E w l).2
  ·obtain ⟨tp,ta,tz⟩:=open_z h hw b0 β0 hl'
   have hT:0 < (tB ns st E w l).2.2.2:=by
    show 0 < (hB ns st E w l).1+(hB ns st E w l).2
    omega
   have zf:¬ w < (Wm.theRoom ns).n->(qpt (tB ns st E w l)).z=if w=(Wm.theRoom ns).n then 0 else ((Wm.theRoom ns).h:Rat):=fun c=>by
    unfold Wm.Hq at tz
    rw [if_neg c] at tz
    by_cases d:w=(Wm.theRoom ns).n
    ·rw [if_pos d] at tz ⊢
     exact tz
    ·rw [if_neg d] at tz ⊢
     grind
   have ih:=GC_eq h l (mirrorM (plAt (planesM ns) w) E) (hB ns st E w l) (tB ns st E w l) hl' ok.2 (by omega) hT
   rw [open_eq h hT zf,clear_eq h hT hq,ih,tp,← ta,← mirror_pt h hw]
   have ord:(hB ns st E w l).1*hh.2 < hh.1*(hB ns st E w l).2↔Wm.turnAt (Wm.theRoom ns) (ptT st) (ptT E) w l < (hh.1:Rat) / ((hh.1+hh.2:Int):Rat):=by
    rw [ta]
    have p1:(0:Rat) < (((hB ns st E w l).1+(hB ns st E w l).2:Int):Rat):=by exact_mod_cast (show 0 < (hB ns st E w l).1+(hB ns st E w l).2 by omega)
    have p2:(0:Rat) < ((hh.1+hh.2:Int):Rat):=by exact_mod_cast hs
    rw [Rat.div_lt_iff p1]
    have e:(hh.1:Rat) / ((hh.1+hh.2:Int):Rat)*(((hB ns st E w l).1+(hB ns st E w l).2:Int):Rat)=((hh.1*((hB ns st E w l).1+(hB ns st E w l).2):Int):Rat) / ((hh.1+hh.2:Int):Rat):=by
     rw [Rat.intCast_mul,Rat.div_def,Rat.div_def]
     grind
    rw [e,Rat.lt_div_iff p2,← Rat.intCast_mul,Rat.intCast_lt_intCast]
    generalize (hB ns st E w l).1=a
    generalize (hB ns st E w l).2=b
    generalize hh.1=c
    generalize hh.2=d
    constructor
    ·intro z
     grind
    ·intro z
     grind
   rw [ord]
   constructor
   ·rintro ⟨h1,h2,h3,h4,h5⟩
    exact ⟨b0,h1,h2,h3,h4,h5⟩
   ·rintro ⟨_,h1,h2,h3,h4,h5⟩
    exact ⟨h1,h2,h3,h4,h5⟩
  ·constructor
   ·intro z
    exact absurd z.1 β0
   ·intro z
    exact absurd z.2.1 β0
theorem KR_ok {ns:List Int} (h:FaultIs ns none) {st:Tri}:∀ (l:List Nat) (E:Pt) (σ:Rat) (q:Pt),inR ns l->Wm.KR (Wm.theRoom ns) (ptT st) l E σ q->okR ns st l
 | [],_,_,_,_,_=>trivial
 | w :: l,E,σ,q,hl,k=>by
  have hw:=hl w (List.mem_cons_self ..)
  have hl':inR ns l:=fun x hx=>hl x (List.mem_cons_of_mem _ hx)
  obtain ⟨L,hL,hH⟩:=height_eq h hw
  obtain ⟨k1,_,_,_,_,k6⟩:=k
  rw [img_eq h st l hl',hH] at k1
  refine ⟨?_,KR_ok h l _ _ _ hl' k6⟩
  have:=Wm.pos_of_mul hL k1
  exact_mod_cast this
end Gn
namespace Gn
open Eh
def startsF (ns:List Int) (st:Tri):List Nat->List Tri
 | []=>[st]
 | w :: l=>startsF ns st l ++ [imgI ns st (w :: l)]
theorem startsF_len (ns:List Int) (st:Tri):∀ l,(startsF ns st l).length=l.length+1
 | []=>rfl
 | w :: l=>by
  show (startsF ns st l ++ [imgI ns st (w :: l)]).length=_
  rw [List.length_append,startsF_len ns st l]
  rfl
theorem startsF_last (ns:List Int) (st:Tri):∀ l,lastT (startsF ns st l)=imgI ns st l
 | []=>rfl
 | w :: l=>by
  show lastT (startsF ns st l ++ [imgI ns st (w :: l)])=_
  unfold lastT
  simp
theorem triAt_left {l m:List Tri} {i:Nat} (h:i < l.length):triAt (l ++ m) i=triAt l i:=by
 unfold triAt
 rw [List.getD_eq_getElem?_getD,List.getD_eq_getElem?_getD,List.getElem?_append_left h]
theorem triAt_snoc {l:List Tri} {x:Tri}:triAt (l ++ [x]) l.length=x:=by
 unfold triAt
 rw [List.getD_eq_getElem?_getD,List.getElem?_append_right (Nat.le_refl _)]
 simp
theorem triAt_last {l:List Tri} (h:l≠[]):triAt l (l.length - 1)=lastT l:=by
 have:=last_at h
 unfold triAt
 rw [List.getD_eq_getElem?_getD,this]
 rfl
theorem natAt_left {l m:List Nat} {i:Nat} (h:i < l.length):natAt (l ++ m) i=natAt l i:=by
 unfold natAt
 rw [List.getD_eq_getElem?_getD,List.getD_eq_getElem?_getD,List.getElem?_append_left h]
theorem natAt_snoc {l:List Nat} {x:Nat}:natAt (l ++ [x]) l.length=x:=by
 unfold natAt
 rw [List.getD_eq_getElem?_getD,List.getElem?_append_right (Nat.le_refl _)]
 simp
theorem ends_snoc (pls:List Qd) (w:Nat) (e:Tri):∀ l,endsM pls (l ++ [w]) e=endsM pls l (mirrorM (plAt pls w) e) ++ [e]
 | []=>rfl
 | x :: l=>by
  have ih:=ends_snoc pls w e l
  show mirrorM (plAt pls x) ((endsM pls (l ++ [w]) e).headD e) :: endsM pls (l ++ [w]) e=(mirrorM (plAt pls x) ((endsM pls l (mirrorM (plAt pls w) e)).headD (mirrorM (plAt pls w) e)) :: endsM pls l (mirrorM (plAt pls w) e)) ++ [e]
  rw [ih]
  cases c:endsM pls l (mirrorM (plAt pls w) e) with
  | nil=>exact absurd c (endsM_ne _ _ _)
  | cons y m=>rfl
theorem ends_last (pls:List Qd) (e:Tri):∀ l,triAt (endsM pls l e) l.length=e
 | []=>rfl
 | x :: l=>ends_last pls e l
def hsR (ns:List Int) (st:Tri) (l:List Nat) (E:Tri):List (Int×Int):=htsM (planesM ns) l.reverse (startsF ns st l) (endsM (planesM ns) l.reverse E)
def turnsR (ns:List Int) (st:Tri) (l:List Nat) (E:Tri):List Qd:=(List.range l.reverse.length).map fun i=>partM (triAt (startsF ns st l) i) (triAt (endsM (planesM ns) l.reverse E) i) (htM (planesM ns) l.reverse (startsF ns st l) (endsM (planesM ns) l.reverse E) i)
theorem ht_cons (ns:List Int) (st E:Tri) (w:Nat) (l:List Nat):(∀ i,i < l.length->htM (planesM ns) (w :: l).reverse (startsF ns st (w :: l)) (endsM (planesM ns) (w :: l).reverse E) i=htM (planesM ns) l.reverse (startsF ns st l) (endsM (planesM ns) l.reverse (mirrorM (plAt (planesM ns) w) E)) i) /\
  htM (planesM ns) (w :: l).reverse (startsF ns st (w :: l)) (endsM (planesM ns) (w :: l).reverse E) l.length=hB ns st E w l:=by
 have sl:=startsF_len ns st l
 have el:=endsM_len (planesM ns) (mirrorM (plAt (planesM ns) w) E) l.reverse
 rw [List.length_reverse] at el
 rw [List.reverse_cons,ends_snoc]
 show (∀ i,i < l.length->htM (planesM ns) (l.reverse ++ [w]) (startsF ns st l ++ [imgI ns st (w :: l)]) _ i=_)/\htM (planesM ns) (l.reverse ++ [w]) (startsF ns st l ++ [imgI ns st (w :: l)]) _ l.length=_
 constructor
 ·intro i hi
  unfold htM
  rw [natAt_left (by rw [List.length_reverse]; exact hi),triAt_left (by omega),triAt_left (by omega)]
 ·unfold htM hB
  have e1:natAt (l.reverse ++ [w]) l.length=w:=by
   have:=natAt_snoc (l:=l.reverse) (x:=w)
   rw [List.length_reverse] at this
   exact this
  have e2:triAt (startsF ns st l ++ [imgI ns st (w :: l)]) l.length=imgI ns st l:=by
   rw [triAt_left (by omega),← startsF_last ns st l,← triAt_last (fun z=>by rw [z] at sl; simp at sl),sl]
   rfl
  have e3:triAt (endsM (planesM ns) l.reverse (mirrorM (plAt (planesM ns) w) E) ++ [E]) (l.length+1)=E:=by
   have:=triAt_snoc (l:=endsM (planesM ns) l.reverse (mirrorM (plAt (planesM ns) w) E)) (x:=E)
   rw [el] at this
   exact this
  rw [e1,e2,e3]
theorem hsR_cons (ns:List Int) (st E:Tri) (w:Nat) (l:List Nat):hsR ns st (w :: l) E=hsR ns st l (mirrorM (plAt (planesM ns) w) E) ++ [hB ns st E w l]:=by
 have k:=ht_cons ns st E w l
 unfold hsR htsM
 rw [show (w :: l).reverse.length=l.length+1 by simp,show l.reverse.length=l.length by simp,List.range_succ,List.map_append]
 congr 1
 ·exact List.map_congr_left fun i hi=>k.1 i (List.mem_range.mp hi)
 ·show [_]=[_]
  rw [k.2]
theorem turnsR_cons (ns:List Int) (st E:Tri) (w:Nat) (l:List Nat):turnsR ns st (w :: l) E=turnsR ns st l (mirrorM (plAt (planesM ns) w) E) ++ [tB ns st E w l]:=by
 have k:=ht_cons ns st E w l
 have sl:=startsF_len ns st l
 have el:=endsM_len (planesM ns) (mirrorM (plAt (planesM ns) w) E) l.reverse
 rw [List.length_reverse] at el
 unfold turnsR
 rw [show (w :: l).reverse.length=l.length+1 by simp,show l.reverse.length=l.length by simp,List.range_succ,List.map_append]
 congr 1
 ·refine List.map_congr_left fun i hi=>?_
  have hi:=List.mem_range.mp hi
  rw [k.1 i hi,List.reverse_cons,ends_snoc]
  show partM (triAt (startsF ns st l ++ [imgI ns st (w :: l)]) i) _ _=_
  rw [triAt_left (by omega),triAt_left (by omega)]
 ·show [partM (triAt (startsF ns st (w :: l)) l.length) (triAt (endsM (planesM ns) (w :: l).reverse E) l.length) (htM (planesM ns) (w :: l).reverse (startsF ns st (w :: l)) (endsM (planesM ns) (w :: l).reverse E) l.length)]=[_]
  rw [k.2,List.reverse_cons,ends_snoc]
  unfold tB
  have e2:triAt (startsF ns st l ++ [imgI ns st (w :: l)]) l.length=imgI ns st l:=by
   rw [triAt_left (by omega),← startsF_last ns st l,← triAt_last (fun z=>by rw [z] at sl; simp at sl),sl]
   rfl
  have e3:triAt (endsM (planesM ns) l.reverse (mirrorM (plAt (planesM ns) w) E) ++ [E]) l.length=mirrorM (plAt (planesM ns) w) E:=by
   rw [triAt_left (by omega)]
   have:=ends_last (planesM ns) (mirrorM (plAt (planesM ns) w) E) l.reverse
   rw [List.length_reverse] at this
   exact this
  show [partM (triAt (startsF ns st l ++ [imgI ns st (w :: l)]) l.length) _ _]=_
  rw [e2,e3]
def GO (ns:List Int) (st:Tri):List Nat->Tri->Int×Int->Prop
 | [],_,_=>True
 | w :: l,E,h=>0 < (hB ns st E w l).2/\(hB ns st E w l).1*h.2 < h.1*(hB ns st E w l).2/\GO ns st l (mirrorM (plAt (planesM ns) w) E) (hB ns st E w l)
theorem prAt_left {l m:List (Int×Int)} {i:Nat} (h:i < l.length):prAt (l ++ m) i=prAt l i:=by
 unfold prAt
 rw [List.getD_eq_getElem?_getD,List.getD_eq_getElem?_getD,List.getElem?_append_left h]
theorem prAt_snoc {l:List (Int×Int)} {x:Int×Int}:prAt (l ++ [x]) l.length=x:=by
 unfold prAt
 rw [List.getD_eq_getElem?_getD,List.getElem?_append_right (Nat.le_refl _)]
 simp
def ordTo (hs:List (Int×Int)) (h:Int×Int):Prop:=orderM hs/\(0 < hs.length->(prAt hs (hs.length - 1)).1*h.2 < h.1*(prAt hs (hs.length - 1)).2)
theorem ord_snoc (hs:List (Int×Int)) (x h:Int×Int):ordTo (hs ++ [x]) h↔0 < x.2/\x.1*h.2 < h.1*x.2/\ordTo hs x:=by
 have ll:(hs ++ [x]).length=hs.length+1:=by simp
 unfold ordTo orderM
 rw [ll]
 constructor
 ·rintro ⟨⟨p,o⟩,q⟩
  have p1:=p hs.length (by omega)
  have q1:=q (by omega)
  rw [show hs.length+1 - 1=hs.length by omega,prAt_snoc] at q1
  rw [prAt_snoc] at p1
  refine ⟨p1,q1,⟨fun i hi=>?_,fun i hi=>?_⟩,fun hpos=>?_⟩
  ·have:=p i (by omega)
   rw [prAt_left hi] at this
   exact this
  ·have:=o i (by omega)
   rw [prAt_left (by omega),prAt_left hi] at this
   exact this
  ·have:=o (hs.length - 1) (by omega)
   rw [show hs.length - 1+1=hs.length by omega,prAt_snoc,prAt_left (by omega)] at this
   exact this
 ·rintro ⟨p1,q1,⟨p,o⟩,q⟩
  refine ⟨⟨fun i hi=>?_,fun i hi=>?_⟩,fun _=>?_⟩
  · by_cases c : i < hs.length
    · rw [prAt_left c]
      exact p i c
    · rw [show i=hs.length by omega,prAt_snoc]
      exact p1
  · by_cases c : i + 1 < hs.length
    · rw [prAt_left (by omega),prAt_left c]
      exact o i c
    · have e:i+1=hs.length:=by omega
      rw [e,prAt_snoc,prAt_left (by omega)]
      have:=q (by omega)
      rw [show hs.length - 1=i by omega] at this
      exact this
  ·rw [show hs.length+1 - 1=hs.length by omega,prAt_snoc]
   exact q1
theorem GO_eq (ns:List Int) (st:Tri):∀ (l:List Nat) (E:Tri) (h:Int×Int),ordTo (hsR ns st l E) h↔GO ns st l E h
 | [],E,h=>by
  constructor
  ·intro _; trivial
  ·intro _
   exact ⟨⟨fun i hi=>absurd hi (Nat.not_lt_zero i),fun i hi=>absurd hi (Nat.not_lt_zero _)⟩,fun z=>absurd z (Nat.lt_irrefl 0)⟩
 | w :: l,E,h=>by
  rw [hsR_cons,ord_snoc,GO_eq ns st l]
  rfl
def consec (R:Qd->Qd->Prop) (l:List Qd):Prop:=∀ i,i+1 < l.length->R (qAt l i) (qAt l (i+1))
theorem qAt_left {l m:List Qd} {i:Nat} (h:i < l.length):qAt (l ++ m) i=qAt l i:=by
 unfold qAt
 rw [List.getD_eq_getElem?_getD,List.getD_eq_getElem?_getD,List.getElem?_append_left h]
theorem qAt_snoc {l:List Qd} {x:Qd}:qAt (l ++ [x]) l.length=x:=by
 unfold qAt
 rw [List.getD_eq_getElem?_getD,List.getElem?_append_right (Nat.le_refl _)]
 simp
theorem consec_snoc (R:Qd->Qd->Prop) (l:List Qd) (x y:Qd):consec R (l ++ [x] ++ [y])↔consec R (l ++ [x])/\R x y:=by
 have l1:(l ++ [x]).length=l.length+1:=by simp
 have l2:(l ++ [x] ++ [y]).length=l.length+2:=by simp
 have ex:qAt (l ++ [x] ++ [y]) l.length=x:=by
  rw [qAt_left (by omega),qAt_snoc]
 have ey:qAt (l ++ [x] ++ [y]) (l.length+1)=y:=by
  have:=qAt_snoc (l:=l ++ [x]) (x:=y)
  rw [l1] at this
  exact this
 unfold consec
 rw [l1,l2]
 constructor
 ·intro h
  refine ⟨fun i hi=>?_,?_⟩
  ·have:=h i (by omega)
   rw [qAt_left (l:=l ++ [x]) (by omega),qAt_left (l:=l ++ [x]) (by omega)] at this
   exact this
  ·have:=h l.length (by omega)
   rw [ex,ey] at this
   exact this
 ·rintro ⟨h1,h2⟩ i hi
  by_cases c:i+1 < l.length+1
  ·rw [qAt_left (l:=l ++ [x]) (by omega),qAt_left (l:=l ++ [x]) (by omega)]
   exact h1 i c
  ·have e:i=l.length:=by omega
   rw [e,ex,ey]
   exact h2
def PP (ns:List Int) (st:Tri) (l:List Nat) (E:Tri) (q:Qd):Prop:=(∀ i,i < l.length->openM ns (natAt l.reverse i) (qAt (turnsR ns st l E) i))/\consec (clearM (trisOf ns)) (ptOf st :: turnsR ns st l E ++ [q])
theorem turnsR_len (ns:List Int) (st:Tri) (l:List Nat) (E:Tri):(turnsR ns st l E).length=l.length:=by simp [turnsR]
theorem PP_cons (ns:List Int) (st E:Tri) (w:Nat) (l:List Nat) (q:Qd):PP ns st (w :: l) E q↔openM ns w (tB ns st E w l)/\clearM (trisOf ns) (tB ns st E w l) q/\PP ns st l (mirrorM (plAt (planesM ns) w) E) (tB ns st E w l):=by
 have tl:=turnsR_len ns st l (mirrorM (plAt (planesM ns) w) E)
 have ew:natAt (l.reverse ++ [w]) l.length=w:=by
  have:=natAt_snoc (l:=l.reverse) (x:=w)
  rw [List.length_reverse] at this
  exact this
 have et:qAt (turnsR ns st l (mirrorM (plAt (planesM ns) w) E) ++ [tB ns st E w l]) l.length=tB ns st E w l:=by
  have:=qAt_snoc (l:=turnsR ns st l (mirrorM (plAt (planesM ns) w) E)) (x:=tB ns st E w l)
  rw [tl] at this
  exact this
 unfold PP
 rw [turnsR_cons,List.reverse_cons,show (w :: l).length=l.length+1 by rfl]
 have e:ptOf st :: (turnsR ns st l (mirrorM (plAt (planesM ns) w) E) ++ [tB ns st E w l]) ++ [q]=(ptOf st :: turnsR ns st l (mirrorM (plAt (planesM ns) w) E)) ++ [tB ns st E w l] ++ [q]:=by simp
 rw [e,consec_snoc]
 constructor
 ·rintro ⟨h1,h2,h3⟩
  have o:=h1 l.length (by omega)
  rw [ew,et] at o
  refine ⟨o,h3,fun i hi=>?_,h2⟩
  have:=h1 i (by omega)
  rw [natAt_left (by rw [List.length_reverse]; exact hi),qAt_left (by omega)] at this
  exact this
 ·rintro ⟨o,h3,h1,h2⟩
  refine ⟨fun i hi=>?_,h2,h3⟩
  by_cases c:i < l.length
  ·rw [natAt_left (by rw [List.length_reverse]; exact c),qAt_left (by omega)]
   exact h1 i c
  ·rw [show i=l.length by omega,ew,et]
   exact o
theorem GC_split (ns:List Int) (st:Tri):∀ (l:List Nat) (E:Tri) (h:Int×Int) (q:Qd),GC ns st l E h q↔GO ns st l E h/\PP ns st l E q
 | [], E, h, q => by
   show clearM (trisOf ns) (ptOf st) q↔True/\PP ns st [] E q
   constructor
   · intro c
     refine ⟨trivial,fun i hi=>absurd hi (Nat.not_lt_zero i),fun i hi=>?_⟩
     have:i=0:=by
       have:i+1 < 2:=hi
       omega
     subst this
     exact c
   · rintro ⟨_,_,h2⟩
     exact h2 0 (by show 0+1 < 2; decide)
 | w :: l,E,h,q=>by
  rw [PP_cons]
  show (_/\_/\_/\_/\GC ns st l _ _ _)↔(_/\_/\GO ns st l _ _)/\_
  rw [GC_split ns st l]
  constructor
  ·rintro ⟨a,b,c,d,e,f⟩
   exact ⟨⟨a,b,e⟩,c,d,f⟩
  ·rintro ⟨⟨a,b,e⟩,c,d,f⟩
   exact ⟨a,b,c,d,e,f⟩
def wayR (ns:List Int) (st:Tri) (l:List Nat):Way:=(l.reverse,startsF ns st l)
theorem good_eq (ns:List Int) (st en:Tri) (l:List Nat):goodM ns st en (wayR ns st l)↔GC ns st l en (1,0) (ptOf en):=by
 rw [GC_split,← GO_eq]
 have hsE:hsM ns en (wayR ns st l)=hsR ns st l en:=rfl
 have tE:turnsM ns en (wayR ns st l)=turnsR ns st l en:=by
  unfold turnsM turnsR
  refine List.map_congr_left fun i hi=>?_
  have hi:=List.mem_range.mp hi
  have hi:i < l.reverse.length:=hi
  rw [hsE]
  unfold hsR
  rw [prAt_hts hi]
  rfl
 have lh:(hsR ns st l en).length=l.length:=by
  unfold hsR
  rw [htsM_len,List.length_reverse]
 have lt:=turnsR_len ns st l en
 have o:ordTo (hsR ns st l en) (1,0)↔orderM (hsR ns st l en):=by
  unfold ordTo
  constructor
  ·intro z; exact z.1
  ·intro z
   refine ⟨z,fun hp=>?_⟩
   have:=z.1 ((hsR ns st l en).length - 1) (by omega)
   simp only
   omega
 rw [o]
 unfold goodM isPathM ptsM
 rw [hsE,tE]
 have e:ptOf st :: (turnsR ns st l en ++ [ptOf en])=ptOf st :: turnsR ns st l en ++ [ptOf en]:=rfl
 rw [e]
 have ln:(wayR ns st l).1.length=l.length:=List.length_reverse ..
 unfold PP consec
 rw [ln]
 have q1:∀ i,i < l.length->qAt (ptOf st :: turnsR ns st l en ++ [ptOf en]) (i+1)=qAt (turnsR ns st l en) i:=fun i hi=>by
  rw [qAt_left (by simp; omega)]
  rfl
 constructor
 ·rintro ⟨a,b,c⟩
  refine ⟨a,fun i hi=>?_,c⟩
  have:=b i hi
  rw [q1 i hi] at this
  exact this
 ·rintro ⟨a,b,c⟩
  refine ⟨a,fun i hi=>?_,c⟩
  rw [q1 i hi]
  exact b i hi
def rowsV (N:Nat):Nat->List (List Nat)
 | 0=>[[]]
 | k+1=>(rowsV N k).flatMap fun l=>(List.range N).map fun w=>w :: l
theorem rows_rev (N:Nat):∀ k,rowsOf N k=(rowsV N k).map List.reverse
 | 0=>rfl
 | k+1=>by
  show (rowsOf N k).flatMap (fun (l:List Nat)=>(List.range N).map fun (w:Nat)=>l ++ [w])=((rowsV N k).flatMap fun l=>(List.range N).map fun w=>w :: l).map List.reverse
  rw [rows_rev N k,List.map_flatMap,List.flatMap_map]
  congr 1
  funext l
  rw [List.map_map]
  refine List.map_congr_left fun w _=>?_
  show l.reverse ++ [w]=(w :: l).reverse
  rw [List.reverse_cons]
theorem rowsV_in {N:Nat}:∀ k,∀ l∈rowsV N k,∀ w∈l,w < N
 | 0,l,hl,w,hw=>by
  have:l=[]:=by simpa [rowsV] using hl
  rw [this] at hw
  cases hw
 | k+1,l,hl,w,hw=>by
  obtain ⟨m,hm,hl⟩:=List.mem_flatMap.mp hl
  obtain ⟨u,hu,rfl⟩:=List.mem_map.mp hl
  rcases List.mem_cons.mp hw with e | e
  ·rw [e]
   exact List.mem_range.mp hu
  ·exact rowsV_in k m hm w e
theorem filter_flat {α β:Type} (p:α->Bool) (f:α->List β):∀ l:List α,(l.filter p).flatMap f=l.flatMap fun x=>if p x=true then f x else []
 | []=>rfl
 | x :: l=>by
  rw [List.flatMap_cons,← filter_flat p f l]
  by_cases c:p x=true
  ·rw [List.filter_cons_of_pos c,List.flatMap_cons,if_pos c]
  ·rw [List.filter_cons_of_neg c,if_neg c]
   rfl
open Classical in
theorem ways_rows {ns:List Int} {st:Tri}:∀ k,waysM (planesM ns) st k=((rowsV (planesM ns).length k).filter fun l=>decide (okR ns st l)).map (wayR ns st)
 | 0=>by
  show [(([]:List Nat),[st])]=_
  have:((rowsV (planesM ns).length 0).filter fun l=>decide (okR ns st l))=[[]]:=by
   show ([[]]:List (List Nat)).filter _=_
   have t:(fun l=>decide (okR ns st l)) []=true:=decide_eq_true (show okR ns st [] from trivial)
   rw [List.filter_cons_of_pos (p:=fun l=>decide (okR ns st l)) t]
   rfl
  rw [this]
  rfl
 | k+1=>by
  show (waysM (planesM ns) st k).flatMap (stepM (planesM ns))=(((rowsV (planesM ns).length k).flatMap fun l=>(List.range (planesM ns).length).map fun w=>w :: l).filter fun l=>decide (okR ns st l)).map (wayR ns st)
  rw [ways_rows k,List.flatMap_map,filter_flat,List.filter_flatMap,List.map_flatMap]
  congr 1
  funext l
  rw [List.filter_map,List.map_map]
  by_cases ok:okR ns st l
  ·rw [if_pos (by simpa using ok)]
   unfold stepM stepTo
   have sa:∀ w,w < (planesM ns).length->stepAt (planesM ns) (wayR ns st l) w=if okR ns st (w :: l) then some (wayR ns st (w :: l)) else none:=fun w hw=>by
    unfold stepAt
    rw [plAt_get hw,Option.bind_some]
    show (if 0 < heightM (plAt (planesM ns) w) (lastT (startsF ns st l)) then _ else _)=_
    rw [startsF_last]
    have e:okR ns st (w :: l)↔0 < heightM (plAt (planesM ns) w) (imgI ns st l):=⟨fun z=>z.1,fun z=>⟨z,ok⟩⟩
    by_cases c:0 < heightM (plAt (planesM ns) w) (imgI ns st l)
    ·rw [if_pos c,if_pos (e.mpr c)]
     unfold wayR
     rw [List.reverse_cons]
     simp only [startsF_last]
     rfl
    ·rw [if_neg c,if_neg fun z=>c (e.mp z)]
   have gen:∀ m,m<=(planesM ns).length->(List.range m).filterMap (stepAt (planesM ns) (wayR ns st l))=((List.range m).filter ((fun l=>decide (okR ns st l)) ∘ fun w=>w :: l)).map (wayR ns st ∘ fun w=>w :: l):=fun m=>by
    induction m with
    | zero=>intro _; rfl
    | succ m ih =>
     intro hm
     rw [List.range_succ,List.filterMap_append,List.filter_append,List.map_append,ih (by omega)]
     congr 1
     have:=sa m (by omega)
     by_cases c:okR ns st (m :: l)
     ·rw [if_pos c] at this
      have f:((fun l=>decide (okR ns st l)) ∘ fun w=>w :: l) m=true:=by simpa using c
      rw [List.filter_cons_of_pos f]
      simp [this]
     ·rw [if_neg c] at this
      have f:¬ ((fun l=>decide (okR ns st l)) ∘ fun w=>w :: l) m=true:=by simpa using c
      rw [List.filter_cons_of_neg f]
      simp [this]
   exact gen _ (Nat.le_refl _)
  ·rw [if_neg (by simpa using ok)]
   have:(List.range (planesM ns).length).filter ((fun l=>decide (okR ns st l)) ∘ fun w=>w :: l)=[]:=by
    rw [List.filter_eq_nil_iff]
    intro w _ z
    have z:okR ns st (w :: l):=by simpa using z
    exact ok z.2
   rw [this]
   rfl
theorem all_flat (pls:List Qd) (st:Tri):∀ m,allWays pls st m=(List.range (m+1)).flatMap (waysM pls st)
 | 0=>by
  show waysM pls st 0=_
  simp
 | m+1=>by
  show allWays pls st m ++ waysM pls st (m+1)=_
  rw [all_flat pls st m,List.range_succ (n:=m+1),List.flatMap_append]
  simp
theorem mirW_dist {ns:List Int} (h:FaultIs ns none) (w:Nat) (p q:Whole):Wm.dist2W p (Wm.mirW (Wm.theRoom ns) w q)=Wm.dist2W (Wm.mirW (Wm.theRoom ns) w p) q:=by
 obtain ⟨F,hn,l1⟩:=fine_of h
 unfold Wm.dist2W Wm.mirW
 by_cases c:w < (Wm.theRoom ns).n
 ·simp only [if_pos c]
  have D:=Wm.dirs F w
  simp only at D
  rcases D with ⟨d1,d2⟩ | ⟨d1,d2⟩ | ⟨d1,d2,d3⟩ | ⟨d1,d2,d3,d4⟩
  ·simp only [if_pos d1]
   grind
  ·simp only [if_neg d1,if_pos d2]
   grind
  ·simp only [if_neg d1,if_neg d2,if_pos d3]
   grind
  ·simp only [if_neg d1,if_neg d2,if_neg d3]
   grind
 ·simp only [if_neg c]
  by_cases d:w=(Wm.theRoom ns).n
  ·simp only [if_pos d]
   grind
  ·simp only [if_neg d]
   grind
theorem len_eq {ns:List Int} (h:FaultIs ns none) (en:Tri):∀ (l:List Nat) (st:Tri),inR ns l->len2M st (triAt (endsM (planesM ns) l en) 0)=Wm.dist2W (Wm.lastW (Wm.theRoom ns) (wh st) l) (wh en)
 | [],st,_=>rfl
 | w :: l,st,hl=>by
  have hw:=hl w (List.mem_cons_self ..)
  have ih:=len_eq h en l (mirrorM (plAt (planesM ns) w) st) fun x hx=>hl x (List.mem_cons_of_mem _ hx)
  have e0:(endsM (planesM ns) l en).headD en=triAt (endsM (planesM ns) l en) 0:=by
   cases c:endsM (planesM ns) l en with
   | nil=>exact absurd c (endsM_ne _ _ _)
   | cons x m=>rfl
  show len2M st (mirrorM (plAt (planesM ns) w) ((endsM (planesM ns) l en).headD en))=Wm.dist2W (Wm.lastW (Wm.theRoom ns) (Wm.mirW (Wm.theRoom ns) w (wh st)) l) (wh en)
  rw [mirror_eq h hw,← ih,e0]
  generalize triAt (endsM (planesM ns) l en) 0=X
  show Wm.dist2W (wh st) (wh (mirrorM (plAt (planesM ns) w) X))=Wm.dist2W (wh (mirrorM (plAt (planesM ns) w) st)) (wh X)
  rw [← mirror_eq h hw,← mirror_eq h hw,mirW_dist h]
theorem path_row {ns:List Int} (h:FaultIs ns none) {st en:Tri} (hs:insideM ns st) (he:insideM ns en) {l:List Nat} (hl:inR ns l):(okR ns st l/\goodM ns st en (wayR ns st l))↔(Wm.theRoom ns).isPath (ptT st) (ptT en) l.reverse=true:=by
 obtain ⟨F,hn,l1⟩:=fine_of h
 have is:(Wm.theRoom ns).inside (ptT st)=true:=(inside_eq h st.1 st.2.1 st.2.2).mpr hs
 have ie:(Wm.theRoom ns).inside (ptT en)=true:=(inside_eq h en.1 en.2.1 en.2.2).mpr he
 have wl:∀ w∈l.reverse,w < (Wm.theRoom ns).walls:=fun w hw=>by
  have:=hl w (List.mem_reverse.mp hw)
  have tl:=tris_len ns
  unfold Room.walls
  omega
 have z:=(Wm.inside_iff _).mp ie
 rw [Wm.isPath_iff _ _ _ _ is ie wl,List.reverse_reverse]
 have hq:ptT en=onWay (Wm.imgR (Wm.theRoom ns) (ptT st) l) (ptT en) 1:=by
  generalize Wm.imgR (Wm.theRoom ns) (ptT st) l=I
  generalize ptT en=E
  obtain ⟨x,y,z⟩:=E
  unfold onWay
  rw [Pt.mk.injEq]
  simp only
  refine ⟨?_,?_,?_⟩ <;> grind
 rw [Wm.spec_K F is l (ptT en) 1 (ptT en) (by decide) (by decide) hq (by grind) (by grind)]
 have one:(((1,0):Int×Int).1:Rat) / ((((1,0):Int×Int).1+((1,0):Int×Int).2:Int):Rat)=1:=by
  show ((1:Int):Rat) / ((1+0:Int):Rat)=1
  simp
  grind
 have g:okR ns st l->(goodM ns st en (wayR ns st l)↔Wm.KR (Wm.theRoom ns) (ptT st) l (ptT en) 1 (ptT en)):=fun ok=>by
  rw [good_eq,GC_eq h l en (1,0) (ptOf en) hl ok (by decide) (show 0 < (ptOf en).2.2.2 from Int.one_pos),qpt_pt,one]
 constructor
 ·rintro ⟨ok,y⟩
  exact (g ok).mp y
 ·intro y
  have ok:=KR_ok h l _ _ _ hl y
  exact ⟨ok,(g ok).mpr y⟩
theorem paths_due {ns:List Int} {st en:Tri} {most:Nat} (h:FaultIs ns none) (hs:insideM ns st) (he:insideM ns en):pathsOf ns st en (allWays (planesM ns) st most)=(Wm.pathList (Wm.theRoom ns) (wh st) (wh en) most).map fun p=>(p.length2,p.walls):=by
 classical
 obtain ⟨F,hn,l1⟩:=fine_of h
 have tl:=tris_len ns
 have pl:=planes_len ns
 have wN:(Wm.theRoom ns).walls=(planesM ns).length:=by
  unfold Room.walls
  omega
 unfold pathsOf Wm.pathList
 rw [all_flat,List.filter_flatMap,List.map_flatMap,List.map_map,List.map_flatMap]
 congr 1
 funext k
 rw [ways_rows,List.filter_map,List.map_map,List.filter_filter,wN,rows_rev,List.filter_map,List.map_map]
 have ef:(rowsV (planesM ns).length k).filter (fun a=>((fun y=>decide (goodM ns st en y)) ∘ wayR ns st) a && decide (okR ns st a))=(rowsV (planesM ns).length k).filter ((Wm.theRoom ns).isPath (wh st).pt (wh en).pt ∘ List.reverse):=by
  refine List.filter_congr fun l hl=>?_
  have il:inR ns l:=fun w hw=>by
   have:=rowsV_in k l hl w hw
   omega
  have p:=path_row h hs he il
  rw [Bool.eq_iff_iff]
  simp only [Function.comp,Bool.and_eq_true,decide_eq_true_iff]
  rw [← p]
  exact and_comm
 have e2:(rowsV (planesM ns).length k).filter (fun a=>((fun y=>decide (goodM ns st en y)) ∘ wayR ns st) a && (decide (okR ns st a)))=(rowsV (planesM ns).length k).filter ((Wm.theRoom ns).isPath (wh st).pt (wh en).pt ∘ List.reverse):=ef
 rw [e2]
 refine List.map_congr_left fun l hl=>?_
 have hl:=(List.mem_filter.mp hl).1
 have il:inR ns l.reverse:=fun w hw=>by
  have:=rowsV_in k l hl w (List.mem_reverse.mp hw)
  omega
 show (len2M st (triAt (endsM (planesM ns) l.reverse en) 0),l.reverse)=(Wm.dist2W (Wm.lastW (Wm.theRoom ns) (wh st) l.reverse) (wh en),l.reverse)
 rw [len_eq h en l.reverse st il]
theorem path_ok {ns:List Int} {st en:Tri} {most:Nat} {c:Int×List Nat} (h:FaultIs ns none) (hs:insideM ns st) (he:insideM ns en) (hm:most<=4) (hc:c∈pathsOf ns st en (allWays (planesM ns) st most)):PathOk ns c:=by
 classical
 have po:=pls_ok h
 have bs:=inside_pb h hs
 have be:=inside_pb h he
 have tl:=tris_len ns
 have pl:=planes_len ns
 have lo:=(fault_none h).1
 unfold pathsOf at hc
 obtain ⟨y,hy,rfl⟩:=List.mem_map.mp hc
 have hy:=(List.mem_filter.mp hy).1
 obtain ⟨k,hk,hy⟩:=all_mem most hy
 have wl:=waysL po bs k y hy
 have ww:=ways_walls k y hy
 have el:=endsM_len (planesM ns) en y.1
 have eb:=endsM_bd po be y.1 ww (triAt (esM ns en y) 0) (List.mem_of_getElem? (triAt_get (l:=endsM (planesM ns) y.1 en) (i:=0) (by omega)))
 have e4:y.1.length<=4:=by have:=wl.w; omega
 have eb:Pb (triAt (esM ns en y) 0) 70000:=eb.mono (by omega)
 have sq:∀ {a b:Int},a.natAbs<=70000->b.natAbs<=4095->0<=(a - b)*(a - b)/\(a - b)*(a - b)<=10000000000:=fun {a b} h1 h2=>by
  have k:(a - b).natAbs<=100000:=by omega
  have m:=mul_le k k
  have n0:0<=(a - b)*(a - b):=by
   rcases Int.le_total 0 (a - b) with z | z
   ·exact Int.mul_nonneg z z
   ·exact Int.mul_nonneg_of_nonpos_of_nonpos z z
  omega
 have s1:=sq eb.1 bs.1
 have s2:=sq eb.2.1 bs.2.1
 have s3:=sq eb.2.2 bs.2.2
 refine ⟨?_,?_,e4,fun x hx=>?_⟩
 ·show 0<=len2M st (triAt (esM ns en y) 0)
  unfold len2M
  omega
 ·show len2M st (triAt (esM ns en y) 0)<=2 ^ 40
  unfold len2M
  omega
 ·have:=ww x hx
  have:=lo.2.1
  omega
end Gn
namespace Gn
open PySem PySem.Spec PyProof.Rows L2 Lw
open PySem.W (Codec WData)
noncomputable def foundM (ns:List Int) (st en:Tri) (most:Nat):List (Int×List Nat):=pathsOf ns st en (allWays (planesM ns) st most)
def keyP (ns bk:List Int) (b:Nat) (c:Int×List Nat):Lw.Key:=(-((gainP ns bk b c:Nat):Int),c.1,(c.2.length:Int),iL c.2)
def BestIs (ns bk:List Int) (st en:Tri) (most band:Nat) (l:List Int):Prop :=
 (∃ r,RefWIs ns bk (decide (most<=4) && decide (band < 4)) st en (some r)/\l=r)\/(RefWIs ns bk (decide (most<=4) && decide (band < 4)) st en none/\((foundM ns st en most=[]/\l=[-2])\/∃ c∈foundM ns st en most,(∀ c'∈foundM ns st en most,keyLt (keyP ns bk band c') (keyP ns bk band c)=false)/\l=0 :: c.1 :: iL c.2))
theorem refw_none {ns bk:List Int} {ok:Bool} {st en:Tri} (h:RefWIs ns bk ok st en none):FaultIs ns none/\bookFault bk=none/\ok=true/\insideM ns st/\insideM ns en:=by
 rcases h with ⟨r,_,e⟩ | ⟨h1,⟨_,e⟩ | ⟨h2,⟨_,e⟩ | ⟨h3,_⟩⟩⟩
 ·cases e
 ·cases e
 ·cases e
 ·exact ⟨(ref_none h1).1,(ref_none h1).2,h2,h3.1,h3.2⟩
def RkAt (H0:Hp) (ns bk:List Int) (b:Nat) (H:Hp) (p:Addr) (c:Int×List Nat):Prop:=∃ a,H p=some (.tup [.int (-((gainP ns bk b c:Nat):Int)),.int c.1,.int (c.2.length:Int),.ref a])/\H0 a=some (.lst (nV c.2))
theorem Tp.rk {H0:Hp} {ns bk:List Int} {b:Nat}:Tp (RkAt H0 ns bk b):=fun _ _ _ _ h k=>by
 obtain ⟨a,h1,h2⟩:=h
 exact ⟨a,k _ _ h1,h2⟩
theorem and_both {tb:TE} {σ:L2.St} {H:Hp} {Q:VK} {c d:Bool} (h2:Q (.bl d) H->tb σ H Q) (h:Q (.bl (c && d)) H):if c=true then tb σ H Q else Q (.bl false) H:=by
 cases c with
 | true=>exact h2 h
 | false=>exact h
section
variable {P:Program} {w:World} {K:PySem.W.Frag} {mg:Str->Option Value} {base:Heap}
def spRank (K:PySem.W.Frag):Sp:=fun vs H Q _=>∃ (pp pr pb aw:Addr) (c:Int×List Nat) (ns bk:List Int) (b:Nat),vs=[.ref pp,.ref pr,.ref pb,.int (b:Int)]/\H pp=some (.tup [.int c.1,.ref aw])/\H aw=some (.lst (nV c.2))/\SqL K H pr (ns.map V.int)/\SqL K H pb (bk.map V.int)/\ns.length<=300/\(∀ x∈bk,0<=x)/\FaultIs ns none/\bookFault bk=none/\b < 4/\PathOk ns c /\
 ∀ H' p,Same H H'->H' p=some (.tup [.int (-((gainP ns bk b c:Nat):Int)),.int c.1,.int (c.2.length:Int),.ref aw])->Q (.ref p) H'
theorem sc_rank_path:FnScope ["path", "room", "book", "band", "gain"] ["path", "room", "book", "band"] (defScope s_rank_path):=⟨rfl,rfl,rfl,by decide +kernel,rfl,by decide +kernel,by decide +kernel⟩
theorem ok_rank_path (F:At K mg "rank_path" s_rank_path ["path", "room", "book", "band"]) (T:Txt mg) (D_find_gain_by_walls:Def P w K mg base "find_gain_by_walls" 4 ["length2", "room", "book", "walls", "band"] (spGainBy K)):Def P w K mg base "rank_path" 5 ["path", "room", "book", "band"] (spRank K):=by
 refine F.ok sc_rank_path (fun vs H Q E h=>?_) (fun f cdv A outer s H vs Q E hr h=>?_)
 ·obtain ⟨_,_,_,_,_,_,_,_,rfl,_⟩:=h
  rfl
 ·obtain ⟨pp,pr,pb,aw,c,ns,bk,b,rfl,e2,e3,hS,hB,hl,hbk,hf,hbf,hb4,ok,k⟩:=h
  have nd:=sc_rank_path.nd
  have q0:((c.1.toNat:Nat):Int)=c.1:=Int.toNat_of_nonneg ok.q0
  refine ⟨_,(pss_cons (ps_set (i:=4) nd rfl (Or.inl rfl) (pe_callD D_find_gain_by_walls hr (pa_cons (pe_ix ix_tup (pv 0) pe_int (fun _ _=>rfl)) (pa_cons (pv 1) (pa_cons (pv 2) (pa_cons (pe_ix ix_tup (pv 0) pe_int (fun _ _=>rfl)) (pa_cons (pv 3) pa_nil)))))))
   (pss_one (ps_ret (pe_tup (pa_cons (pe_un un_neg (pv 4)) (pa_cons (pe_ix ix_tup (pv 0) pe_int (fun _ _=>rfl)) (pa_cons (pe_callB call_len_seq (by rfl) T.b_len bt_len (pa_cons (pe_ix ix_tup (pv 0) pe_int (fun _ _=>rfl)) pa_nil)) (pa_cons (pe_ix ix_tup (pv 0) pe_int (fun _ _=>rfl)) pa_nil)))))))),?_⟩
  refine ⟨_,rfl,pp,_,_,_,rfl,rfl,SqT.of e2,rfl,_,rfl,_,rfl,_,rfl,pp,_,_,_,rfl,rfl,SqT.of e2,rfl,_,rfl,c.1.toNat,pr,pb,aw,ns,bk,iL c.2,b,?_,hS,hB,?_,hl,hbk,hf,hbf,?_,?_,?_,hb4,fun H2 s2=>?_⟩
  ·rw [q0]
   rfl
  ·rw [iL_V]
   exact SqL.of e3
  ·unfold iL
   rw [List.length_map]
   exact ok.l4
  ·intro x hx
   unfold iL at hx
   obtain ⟨n,hn,rfl⟩:=List.mem_map.mp hx
   exact ⟨by omega,by have:=ok.w n hn; omega⟩
  ·have:=ok.q40
   omega
  ·have e2':=s2 _ _ e2
   have e3':=s2 _ _ e3
   refine ⟨_,rfl,_,rfl,_,rfl,pp,_,_,_,rfl,rfl,SqT.of e2',rfl,_,rfl,pp,_,_,_,rfl,rfl,SqT.of e2',rfl,aw,_,rfl,.inl (SqL.of e3'),_,rfl,pp,_,_,_,rfl,rfl,SqT.of e2',rfl,(by show 4<=sizeLine; decide),fun p hp=>?_⟩
   refine k _ p (s2.trans (same_new hp)) ?_
   rw [nV_len]
   exact upd_same
def spBest (K:PySem.W.Frag):Sp:=fun vs H Q _=>∃ (st en:Tri) (most band:Nat) (pr pb:Addr) (ns bk:List Int),vs=[.int st.1,.int st.2.1,.int st.2.2,.int en.1,.int en.2.1,.int en.2.2,.int (most:Int),.int (band:Int),.ref pr,.ref pb]/\SqL K H pr (ns.map V.int)/\SqL K H pb (bk.map V.int)/\ns.length<=300/\(∀ x∈ns,x.natAbs<=2 ^ 63)/\(∀ x∈bk,0<=x)/\Bd st/\Bd en/\(most<=4->((ns.length - 3) / 3+2) ^ most<=20000)/\∀ l H' p,BestIs ns bk st en most band l->Same H H'->H' p=some (.lst (l.map V.int))->Q (.ref p) H'
theorem sc_best:FnScope ["x", "y", "z", "u", "v", "t", "most", "band", "room", "book", "start", "end", "refusal", "ranked", "path", "first"] ["x", "y", "z", "u", "v", "t", "most", "band", "room", "book"] (defScope s_best):=⟨rfl,rfl,rfl,by decide +kernel,rfl,by decide +kernel,by decide +kernel⟩
theorem ok_best (F:At K mg "best" s_best ["x", "y", "z", "u", "v", "t", "most", "band", "room", "book"]) (T:Txt mg) (D_refuse_way:Def P w K mg base "refuse_way" 8 ["room", "book", "is_in_range", "start", "end"] (spRefW K)) (D_find_paths:Def P w K mg base "find_paths" 7 ["room", "start", "end", "most"] (spFind K)) (D_rank_path:Def P w K mg base "rank_path" 5 ["path", "room", "book", "band"] (spRank K)) :
  Def P w K mg base "best" 9 ["x", "y", "z", "u", "v", "t", "most", "band", "room", "book"] (spBest K):=by
 refine F.ok sc_best (fun vs H Q E h=>?_) (fun f cdv A outer s H vs Q E hr h=>?_)
 ·obtain ⟨_,_,_,_,_,_,_,_,rfl,_⟩:=h
  rfl
 ·obtain ⟨st,en,most,band,pr,pb,ns,bk,rfl,hS,hB,hl,hb,hbk,bs,be,hn,k⟩:=h
  have nd:=sc_best.nd
  refine ⟨_,(pss_cons (ps_set (i:=10) nd rfl (Or.inl rfl) (pe_tup (pa_cons (pv 0) (pa_cons (pv 1) (pa_cons (pv 2) pa_nil)))))
   (pss_cons (ps_set (i:=11) nd rfl (Or.inl rfl) (pe_tup (pa_cons (pv 3) (pa_cons (pv 4) (pa_cons (pv 5) pa_nil)))))
   (pss_cons (ps_set (i:=12) nd rfl (Or.inl rfl) (pe_callD D_refuse_way hr (pa_cons (pv 8) (pa_cons (pv 9) (pa_cons (pe_and (pe_cmpR op_le (pv 6) (pe_gE (by rfl) T.c_MOST_TURNS) (nomark _)) (pe_one (pe_cmpR op_lt (pv 7) (pe_gE (by rfl) T.c_BANDS) (nomark _)))) (pa_cons (pv 10) (pa_cons (pv 11) pa_nil)))))))
   (pss_cons (ps_if (pt_cmpR op_notN (pv 12) pe_non (nomark _)) (pss_one (ps_ret (pv 12))) pss_nil)
   (pss_cons (ps_setLc (i:=13) rfl nd rfl rfl (sw_true rfl rfl rfl rfl) (pi_list (pe_callD D_find_paths hr (pa_cons (pv 8) (pa_cons (pv 10) (pa_cons (pv 11) (pa_cons (pv 6) pa_nil)))))) (blkOk_by (own:=[("path",14)]) (by show blkC ["x", "y", "z", "u", "v", "t", "most", "band", "room", "book", "start", "end", "refusal", "ranked", "path", "first"] (defScope s_best) _ _=true; decide +kernel)) (fun _ _ _ _ _=>(pg_name (i:=14) nd rfl (Or.inl rfl))) (fun _ _ _ _ _=>pts_nil) (fun _ _ _ _ _=>(pe_callD D_rank_path hr (pa_cons (pv 14) (pa_cons (pv 8) (pa_cons (pv 9) (pa_cons (pv 7) pa_nil)))))))
   (pss_cons (ps_if (pt_not (pt_truth (pv 13) (fun _=>rfl))) (pss_one (ps_ret (pe_lst (pa_cons (pe_gE (by rfl) T.c_NO_PATH) pa_nil)))) pss_nil)
   (pss_cons (ps_set (i:=15) nd rfl (Or.inl rfl) (pe_callB (cr_minK rfl hr.units) (by rfl) T.b_min bt_min (pa_cons (pv 13) pa_nil)))
   (pss_one (ps_ret (pe_op op_cat (pe_lst (pa_cons (pe_gE (by rfl) T.c_FINE) (pa_cons (pe_ix ix_tup (pv 15) pe_int (fun _ _=>rfl)) pa_nil))) (pe_ix ix_tup (pv 15) pe_int (fun _ _=>rfl)))))))))))),?_⟩
  refine ⟨_,rfl,_,rfl,_,rfl,(by show 3<=sizeLine; decide),fun ps hps=>?_⟩
  have n1:=same_new (o:=.tup [.int st.1,.int st.2.1,.int st.2.2]) hps
  refine ⟨_,rfl,_,rfl,_,rfl,(by show 3<=sizeLine; decide),fun pe hpe=>?_⟩
  have n2:=same_new (o:=.tup [.int en.1,.int en.2.1,.int en.2.2]) hpe
  have tS:TriAt (upd (upd H ps (.tup [.int st.1,.int st.2.1,.int st.2.2])) pe (.tup [.int en.1,.int en.2.1,.int en.2.2])) ps st:=n2 _ _ upd_same
  have tE:TriAt (upd (upd H ps (.tup [.int st.1,.int st.2.1,.int st.2.2])) pe (.tup [.int en.1,.int en.2.1,.int en.2.2])) pe en:=upd_same
  have s2:=n1.trans n2
  generalize upd (upd H ps (.tup [.int st.1,.int st.2.1,.int st.2.2])) pe (.tup [.int en.1,.int en.2.1,.int en.2.2])=H2 at *
  refine ⟨_,rfl,_,rfl,_,rfl,_,_,rfl,rfl,_,rfl,and_both (d:=decide ((band:Int) < 4)) (fun z=>⟨_,rfl,_,_,rfl,rfl,z⟩) ?_⟩
  have dm:decide ((most:Int)<=4)=decide (most<=4):=by
   rw [decide_eq_decide]
   omega
  have db:decide ((band:Int) < 4)=decide (band < 4):=by
   rw [decide_eq_decide]
   omega
  rw [dm,db]
  refine ⟨_,rfl,_,rfl,pr,pb,ps,pe,ns,bk,decide (most<=4) && decide (band < 4),st,en,rfl,s2.seq hS,s2.seq hB,hl,hb,tS,tE,bs,be,fun o v H3 ho hv s3=>?_⟩
  have s23:=s2.trans s3
  cases o with
  | some l =>
   obtain ⟨p,rfl,hp⟩:=hv
   refine ⟨_,rfl,rfl,_,rfl,?_⟩
   exact ⟨_,rfl,k _ _ _ (.inl ⟨l,ho,rfl⟩) s23 hp⟩
  | none =>
   cases hv
   obtain ⟨hf,hbf,hk,is,ie⟩:=refw_none ho
   rw [Bool.and_eq_true,decide_eq_true_eq,decide_eq_true_eq] at hk
   obtain ⟨h4,hb4⟩:=hk
   have ro:=room_ok hf hl hb
   have po:=pls_ok hf
   have pl:(planesM ns).length=(trisOf ns).length+2:=by simp [planesM]
   have hp:(planesM ns).length ^ most<=20000:=by
    have:=hn h4
    have e:(planesM ns).length=(ns.length - 3) / 3+2:=by
     rw [pl,tris_len]
     have:=ro.len.1
     have:=ro.len.2.1
     omega
    rw [e]
    exact this
   refine ⟨_,rfl,rfl,_,rfl,?_⟩
   refine ⟨_,rfl,_,rfl,_,rfl,_,rfl,pr,ps,pe,ns,st,en,most,rfl,s23.seq hS,ro,po,tS.same s3,tE.same s3,inside_pb hf is,inside_pb hf ie,h4,hp,fun H4 r s4 hR=>?_⟩
   have s24:=s23.trans s4
   have ok:∀ c∈foundM ns st en most,PathOk ns c:=fun c hc=>path_ok hf is ie h4 hc
   have hR:LsAt PathAt H4 r (foundM ns st en most):=hR
   have fl:(foundM ns st en most).length<=100000:=by
    have a:=pathsOf_len (ns:=ns) (st:=st) (en:=en) (l:=allWays (planesM ns) st most)
    have b:=(all_len (st:=st) hp (by omega) most (Nat.le_refl _)).2
    have:(most+1)*20000<=5*20000:=Nat.mul_le_mul_right _ (by omega)
    exact Nat.le_trans a (Nat.le_trans b this)
   obtain ⟨qs,g1,g2,g3⟩:=hR.item
   refine ⟨r,rfl,⟨_,SqL.of g1⟩,fun D hD=>lc_list (K:=K) (a:=r) (xs:=qs.map V.ref) (Built (RkAt H4 ns bk band) H4 D (foundM ns st en most)) (built0 hD) (fun i H' _ q=>SqL.of (q.1 _ _ g1)) ?_ ?_⟩
   ·intro i x H5 hx b
    have hi':i < (foundM ns st en most).length:=by
     have:=(List.getElem?_eq_some_iff.mp hx).1
     rw [List.length_map,g2] at this
     exact this
    have hc:=List.getElem?_eq_getElem hi'
    obtain ⟨q,e1,⟨aw,e2,e3⟩⟩:=g3 i _ hc
    rw [e1] at hx
    cases hx
    have okc:=ok _ (List.getElem_mem hi')
    have s25:=s24.trans b.1
    refine ⟨rfl,_,rfl,_,rfl,_,rfl,_,rfl,q,pr,pb,aw,(foundM ns st en most)[i],ns,bk,band,rfl,b.1 _ _ e2,b.1 _ _ e3,s25.seq hS,s25.seq hB,hl,hbk,hf,hbf,hb4,okc,fun H6 p s6 h6=>?_⟩
    exact Built.step Tp.rk hD hc (Nat.le_trans fl (by decide)) b s6 ⟨aw,h6,e3⟩
   ·intro H5 b
    have e:(qs.map V.ref).length=(foundM ns st en most).length:=by rw [List.length_map,g2]
    rw [e] at b
    have s45:=b.1
    have s25:=s24.trans s45
    obtain ⟨us,u1,u2,u3⟩:=b.done
    have fin:∀ (l:List Int) (H':Hp) (p:Addr),((foundM ns st en most=[]/\l=[-2])\/∃ c∈foundM ns st en most,(∀ c'∈foundM ns st en most,keyLt (keyP ns bk band c') (keyP ns bk band c)=false)/\l=0 :: c.1 :: iL c.2)->Same H5 H'->H' p=some (.lst (l.map V.int))->Q (.ref p) H':=fun l H' p z s z2=>k l H' p (.inr ⟨ho,z⟩) (s25.trans s) z2
    have b5:∀ c∈foundM ns st en most,c.2.length<=4:=fun c hc=>(ok c hc).l4
    generalize foundM ns st en most=fs at *
    refine ⟨_,rfl,!(us.map V.ref).isEmpty,.inl ⟨_,SqL.of u1,rfl⟩,?_⟩
    cases us with
    | nil =>
     refine iteT ?_
     refine ⟨(by show 1<=sizeLine; decide),fun p hp=>?_⟩
     refine fin [-2] _ p (.inl ⟨?_,rfl⟩) (same_new hp) upd_same
     exact List.length_eq_zero_iff.mp u2.symm
    | cons u0 us =>
     refine iteF ?_
     refine ⟨_,rfl,D,u0 :: us,fs.map (keyP ns bk band),rfl,SqL.of u1,by rw [List.length_map]; exact u2,by rw [List.length_map,← u2]; exact Nat.succ_pos _,?_,?_⟩
     ·intro i q kk h1 h2
      rw [List.getElem?_map] at h2
      cases e:fs[i]? with
      | none=>rw [e] at h2; cases h2
      | some c =>
       rw [e] at h2
       cases h2
       obtain ⟨a,r1,r2⟩:=u3 i q c h1 e
       refine ⟨a,SqT.of r1,?_⟩
       show SqL K H5 a ((iL c.2).map V.int)
       rw [iL_V]
       exact SqL.of (s45 _ _ r2)
     ·intro i q kk h1 h2 least
      rw [List.getElem?_map] at h2
      cases e:fs[i]? with
      | none=>rw [e] at h2; cases h2
      | some c =>
       rw [e] at h2
       cases h2
       obtain ⟨a,r1,r2⟩:=u3 i q c h1 e
       have hc:=List.mem_of_getElem? e
       refine ⟨_,rfl,q,_,_,_,rfl,rfl,SqT.of r1,rfl,(by show 2<=sizeLine; decide),fun l1 hl1=>?_⟩
       have n6:=same_new (o:=.lst [.int 0,.int c.1]) hl1
       refine ⟨_,rfl,q,_,_,_,rfl,rfl,SqT.of (n6 _ _ r1),rfl,l1,a,_,_,rfl,rfl,upd_same,n6 _ _ (s45 _ _ r2),?_,fun p hp=>?_⟩
       ·rw [nV_len]
        have:=b5 c hc
        exact Nat.le_trans (show 2+c.2.length<=6 by omega) (by decide)
       ·refine fin (0 :: c.1 :: iL c.2) _ p (.inr ⟨c,hc,fun c' hc'=>least _ (List.mem_map.mpr ⟨c',hc',rfl⟩),rfl⟩) (n6.trans (same_new hp)) ?_
        have e7:(0 :: c.1 :: iL c.2).map V.int=[V.int 0,V.int c.1] ++ nV c.2:=by
         rw [← iL_V]
         rfl
        rw [e7]
        exact upd_same
end
end Gn
namespace Gn
open Eh
theorem gainP_eq {ns bk:List Int} (h:FaultIs ns none) {p:Path} (hw:∀ x∈p.walls,x < ns.length / 3+1) {b:Nat} (hb:b < 4):gainOf (Wm.theRoom ns) (bookC bk) b p=gainP ns bk b (p.length2,p.walls):=by
 unfold gainOf gainP gainW
 rw [← gain_eq h p.length2.toNat hw hb]
 congr 1
 unfold iL
 rw [List.map_map]
 rfl
theorem inside_no {ns:List Int} (h:FaultIs ns none) (p:Tri):Wm.insideB (Wm.theRoom ns) ⟨p.1,p.2.1,p.2.2⟩=false↔¬ insideM ns p:=by
 rw [← inside_eq h p.1 p.2.1 p.2.2]
 cases Wm.insideB (Wm.theRoom ns) ⟨p.1,p.2.1,p.2.2⟩ <;> simp
theorem lesser_lex:∀ l m:List Nat,lesser l m=true->HT.lexLt (iL l) (iL m)=true
 | [],_,h=>by cases h
 | _ :: _,[],h=>by cases h
 | x :: l,y :: m,h=>by
  show HT.lexLt ((x:Int) :: iL l) ((y:Int) :: iL m)=true
  rw [HT.lexLt_cons]
  have h:(decide (x < y) || (x == y && lesser l m))=true:=h
  rw [Bool.or_eq_true,Bool.and_eq_true,beq_iff_eq,decide_eq_true_eq] at h
  by_cases e:x=y
  ·rw [if_pos (by omega)]
   rcases h with h | h
   ·omega
   ·exact lesser_lex l m h.2
  ·rw [if_neg (by omega),decide_eq_true_eq]
   rcases h with h | h
   ·omega
   ·exact absurd h.1 e
theorem key_order {g:Path->Nat} {p q:Path} (h:Lw.keyLt (-((g q:Nat):Int),q.length2,(q.walls.length:Int),iL q.walls) (-((g p:Nat):Int),p.length2,(p.walls.length:Int),iL p.walls)=false):g q < g p\/(g q=g p/\(q=p\/p.before q=true)):=by
 unfold Lw.keyLt at h
 simp only at h
 by_cases e:g q=g p
 ·refine .inr ⟨e,?_⟩
  rw [if_pos (by omega)] at h
  cases hb:p.before q with
  | true=>exact .inr rfl
  | false =>
   refine .inl ?_
   cases hc:q.before p with
   | false=>exact Wm.before_tri hc hb
   | true =>
    exfalso
    rw [Wm.before_iff] at hc
    by_cases e1:q.length2=p.length2
    ·rw [if_pos e1] at h
     rcases hc with hc | ⟨_,hc⟩
     ·omega
     · by_cases e2 : q.walls.length = p.walls.length
       · rw [if_pos (by omega)] at h
         rcases hc with hc | ⟨_,hc⟩
         · omega
         · rw [lesser_lex _ _ hc] at h
           cases h
       · rw [if_neg (by omega),decide_eq_false_iff_not] at h
         rcases hc with hc | hc
         · omega
         · exact e2 hc.1
    ·rw [if_neg e1,decide_eq_false_iff_not] at h
     rcases hc with hc | hc
     ·omega
     ·exact e1 hc.1
 ·rw [if_neg (by omega),decide_eq_false_iff_not] at h
  exact .inl (by omega)
theorem best_eq {ns bk l:List Int} {st en:Tri} {most band:Nat} (hbk:∀ x∈bk,0<=x) (h:BestIs ns bk st en most band l):PyYqbeca.best st.1 st.2.1 st.2.2 en.1 en.2.1 en.2.2 (most:Int) (band:Int) ns bk=l:=by
 rw [Wm.best_due (by omega) (by omega) hbk]
 have dm:decide ((most:Int)<=4)=decide (most<=4):=by
  rw [decide_eq_decide]
  omega
 have db:decide ((band:Int)<=3)=decide (band < 4):=by
  rw [decide_eq_decide]
  omega
 unfold Wm.allL Wm.ofL
 rw [dm,db]
 rcases h with ⟨r,hr,rfl⟩ | ⟨hr,hl⟩
 ·rcases hr with ⟨r',hr,e⟩ | ⟨hr,⟨hk,e⟩ | ⟨hk,⟨hi',e⟩ | ⟨_,e⟩⟩⟩
  ·cases e
   rcases hr with ⟨r,i,hf,e⟩ | ⟨hf,⟨m,hbf,e⟩ | ⟨_,e⟩⟩
   ·cases e
    rw [fault_due hf]
   ·cases e
    rw [fault_due hf]
    simp only [book_due,hbf]
   ·cases e
  ·cases e
   obtain ⟨hf,hbf⟩:=ref_none hr
   rw [fault_due hf]
   simp only [book_due,hbf]
   rw [if_pos hk]
  ·cases e
   obtain ⟨hf,hbf⟩:=ref_none hr
   rw [fault_due hf]
   simp only [book_due,hbf]
   rw [if_neg (by rw [hk]; decide),if_pos ?_]
   rw [inside_no hf st,inside_no hf en]
   exact Classical.byContradiction fun z=>hi' ⟨Classical.byContradiction fun a=>z (.inl a),Classical.byContradiction fun a=>z (.inr a)⟩
  ·cases e
 ·obtain ⟨hf,hbf,hk,is,ie⟩:=refw_none hr
  have hk':=hk
  rw [Bool.and_eq_true,decide_eq_true_eq,decide_eq_true_eq] at hk'
  obtain ⟨h4,hb4⟩:=hk'
  rw [fault_due hf]
  simp only [book_due,hbf]
  rw [if_neg (by rw [hk]; decide),if_neg ?_]
  ·have pd:pathsOf ns st en (allWays (planesM ns) st most)=(Wm.pathList (Wm.theRoom ns) ⟨st.1,st.2.1,st.2.2⟩ ⟨en.1,en.2.1,en.2.2⟩ most).map fun p=>(p.length2,p.walls):=paths_due (most:=most) hf is ie
   have pk:=fun c hc=>path_ok (c:=c) hf is ie h4 hc
   rw [Int.toNat_natCast,Int.toNat_natCast]
   unfold foundM at hl
   rw [pd] at hl pk
   rcases hl with ⟨hn,rfl⟩ | ⟨c,hc,hm,rfl⟩
   ·have hn:=List.map_eq_nil_iff.mp hn
    rw [hn]
    rfl
   ·obtain ⟨p,hp,rfl⟩:=List.mem_map.mp hc
    have ge:∀ q∈Wm.pathList (Wm.theRoom ns) ⟨st.1,st.2.1,st.2.2⟩ ⟨en.1,en.2.1,en.2.2⟩ most,gainOf (Wm.theRoom ns) (bookC bk) band q=gainP ns bk band (q.length2,q.walls):=fun q hq=>gainP_eq hf (pk _ (List.mem_map.mpr ⟨q,hq,rfl⟩)).w hb4
    rw [Wm.best_sorted (m:=p) hp fun q hq=>?_]
    ·rfl
    ·refine key_order ?_
     rw [ge q hq,ge p hp]
     exact hm _ (List.mem_map.mpr ⟨q,hq,rfl⟩)
  ·rw [inside_no hf st,inside_no hf en]
   rintro (z | z)
   ·exact z is
   ·exact z ie
end Gn
namespace Gn
open PySem PySem.Spec PyProof.Rows L2 Lw
open PySem.W (Codec WData)
section
variable {P:Program} {w:World} {K:PySem.W.Frag} {mg:Str->Option Value} {base:Heap}
theorem ok_the_fault (T:Txt mg) (A_list_corners:At K mg "list_corners" s_list_corners ["room"]) (A_has_right_length:At K mg "has_right_length" s_has_right_length ["room"]) (A_is_place:At K mg "is_place" s_is_place ["number"]) (A_is_stuff:At K mg "is_stuff" s_is_stuff ["number"]) (A_has_right_head:At K mg "has_right_head" s_has_right_head ["room"])
  (A_is_corner:At K mg "is_corner" s_is_corner ["corner"]) (A_find_ends:At K mg "find_ends" s_find_ends ["corners", "line"]) (A_find_run:At K mg "find_run" s_find_run ["corners", "line"]) (A_runs_in_a_direction:At K mg "runs_in_a_direction" s_runs_in_a_direction ["corners", "line"]) (A_goes_straight_on:At K mg "goes_straight_on" s_goes_straight_on ["corners", "line"])
  (A_find_side:At K mg "find_side" s_find_side ["start", "end", "point"]) (A_ranges_meet:At K mg "ranges_meet" s_ranges_meet ["first", "second", "axis"]) (A_reaches_across:At K mg "reaches_across" s_reaches_across ["first", "second"]) (A_lines_meet:At K mg "lines_meet" s_lines_meet ["first", "second"])
  (A_meets_a_later_line:At K mg "meets_a_later_line" s_meets_a_later_line ["corners", "line"]) (A_breaks_rule:At K mg "breaks_rule" s_breaks_rule ["corners", "rule", "wall"]) (A_measure_twice:At K mg "measure_twice" s_measure_twice ["corners"]) (A_find_room_fault:At K mg "find_room_fault" s_find_room_fault ["room"]) :
  Def P w K mg base "find_room_fault" 6 ["room"] (spRoomFault K):=by
 have de:=ok_find_ends (P:=P) (w:=w) (base:=base) A_find_ends T
 have ds:=ok_is_stuff (P:=P) (w:=w) (base:=base) A_is_stuff T
 have dr:=ok_find_run A_find_run T de
 refine ok_find_room_fault A_find_room_fault T (ok_has_right_length A_has_right_length T) (ok_has_right_head A_has_right_head T ds) (ok_list_corners A_list_corners T) ?_ (ok_measure_twice A_measure_twice T de)
 exact ok_breaks_rule A_breaks_rule T (ok_is_corner A_is_corner T (ok_is_place A_is_place T) ds) (ok_runs_in_a_direction A_runs_in_a_direction T dr) (ok_goes_straight_on A_goes_straight_on T dr)
  (ok_meets_a_later_line A_meets_a_later_line T de (ok_lines_meet A_lines_meet T (ok_ranges_meet A_ranges_meet T) (ok_reaches_across A_reaches_across T (ok_find_side A_find_side T))))
end
theorem lines_ok {P:Program} {w:World} {K:PySem.W.Frag} {mg:Str->Option Value} {base:Heap} (T:Txt mg) (A_find_side:At K mg "find_side" s_find_side ["start", "end", "point"]) (A_ranges_meet:At K mg "ranges_meet" s_ranges_meet ["first", "second", "axis"]) (A_reaches_across:At K mg "reaches_across" s_reaches_across ["first", "second"]) (A_lines_meet:At K mg "lines_meet" s_lines_meet ["first", "second"]):Def P w K mg base "lines_meet" 3 ["first", "second"] spMeet :=
 ok_lines_meet A_lines_meet T (ok_ranges_meet A_ranges_meet T) (ok_reaches_across A_reaches_across T (ok_find_side A_find_side T))
theorem find_ok {P:Program} {w:World} {K:PySem.W.Frag} {mg:Str->Option Value} {base:Heap} (T:Txt mg) (A_list_corners:At K mg "list_corners" s_list_corners ["room"]) (A_find_ends:At K mg "find_ends" s_find_ends ["corners", "line"]) (A_find_run:At K mg "find_run" s_find_run ["corners", "line"]) (A_find_side:At K mg "find_side" s_find_side ["start", "end", "point"]) (A_reaches_across:At K mg "reaches_across" s_reaches_across ["first", "second"])
  (A_find_side_plane:At K mg "find_side_plane" s_find_side_plane ["corners", "wall"]) (A_list_planes:At K mg "list_planes" s_list_planes ["room"]) (A_measure_height:At K mg "measure_height" s_measure_height ["plane", "point"]) (A_mirror:At K mg "mirror" s_mirror ["plane", "point"]) (A_lengthen_way:At K mg "lengthen_way" s_lengthen_way ["planes", "way"]) (A_list_ways:At K mg "list_ways" s_list_ways ["planes", "start", "most"]) (A_list_seen_ends:At K mg "list_seen_ends" s_list_seen_ends ["planes", "walls", "end"])
  (A_list_heights:At K mg "list_heights" s_list_heights ["planes", "walls", "starts", "ends"]) (A_are_in_order:At K mg "are_in_order" s_are_in_order ["heights"]) (A_part_way:At K mg "part_way" s_part_way ["start", "end", "heights"]) (A_enlarge:At K mg "enlarge" s_enlarge ["corners", "whole"]) (A_is_in_open_wall:At K mg "is_in_open_wall" s_is_in_open_wall ["room", "wall", "point"]) (A_cuts_leg:At K mg "cuts_leg" s_cuts_leg ["line", "leg"]) (A_is_clear:At K mg "is_clear" s_is_clear ["corners", "start", "end"]) (A_is_path:At K mg "is_path" s_is_path ["room", "walls", "points"])
  (A_measure_length2:At K mg "measure_length2" s_measure_length2 ["start", "end"]) (A_find_paths:At K mg "find_paths" s_find_paths ["room", "start", "end", "most"]) (dw:Def P w K mg base "is_within" 4 ["corners", "point"] spWithin) (dl:Def P w K mg base "lines_meet" 3 ["first", "second"] spMeet):Def P w K mg base "find_paths" 7 ["room", "start", "end", "most"] (spFind K):=by
 have dc:=ok_list_corners (P:=P) (w:=w) (base:=base) A_list_corners T
 have de:=ok_find_ends (P:=P) (w:=w) (base:=base) A_find_ends T
 have ds:=ok_find_side (P:=P) (w:=w) (base:=base) A_find_side T
 have dh:=ok_measure_height (P:=P) (w:=w) (base:=base) A_measure_height T
 have dm:=ok_mirror A_mirror T dh
 have dn:=ok_enlarge (P:=P) (w:=w) (base:=base) A_enlarge T
 refine ok_find_paths A_find_paths T (ok_list_planes A_list_planes T dc (ok_find_side_plane A_find_side_plane T (ok_find_run A_find_run T de))) (ok_list_ways A_list_ways T (ok_lengthen_way A_lengthen_way T dh dm)) (ok_list_seen_ends A_list_seen_ends T dm) (ok_list_heights A_list_heights T dh) (ok_are_in_order A_are_in_order T) (ok_part_way A_part_way T) ?_ (ok_measure_length2 A_measure_length2 T)
 exact ok_is_path A_is_path T (ok_is_in_open_wall A_is_in_open_wall T dc dn dw (ok_find_ends2 A_find_ends T) dl) dc (ok_is_clear A_is_clear T dn de (ok_cuts_leg A_cuts_leg T ds (ok_reaches_across A_reaches_across T ds)))
theorem all_mk {P:Program} {w:World} {K:PySem.W.Frag} {h:Heap} {mg:Str->Option Value} {fa:Addr} (X:K.In h) (G:h.Ns mainGlobals mg) (hfa:mg "best" = some (.ref fa))
  (nb_abs:PySem.W.nsIn K mainGlobals "abs" = some none)
  (nb_all:PySem.W.nsIn K mainGlobals "all" = some none)
  (nb_any:PySem.W.nsIn K mainGlobals "any" = some none)
  (nb_enumerate:PySem.W.nsIn K mainGlobals "enumerate" = some none)
  (nb_len:PySem.W.nsIn K mainGlobals "len" = some none)
  (nb_list:PySem.W.nsIn K mainGlobals "list" = some none)
  (nb_max:PySem.W.nsIn K mainGlobals "max" = some none)
  (nb_min:PySem.W.nsIn K mainGlobals "min" = some none)
  (nb_range:PySem.W.nsIn K mainGlobals "range" = some none)
  (nb_reversed:PySem.W.nsIn K mainGlobals "reversed" = some none)
  (nb_zip:PySem.W.nsIn K mainGlobals "zip" = some none)
  {tk_AIR_PLACE:Tok} (nc_AIR_PLACE:PySem.W.nsIn K mainGlobals "AIR_PLACE" = some (some (.int (32) tk_AIR_PLACE)))
  {tk_AIR_STEP:Tok} (nc_AIR_STEP:PySem.W.nsIn K mainGlobals "AIR_STEP" = some (some (.int (1024) tk_AIR_STEP)))
  {tk_BANDS:Tok} (nc_BANDS:PySem.W.nsIn K mainGlobals "BANDS" = some (some (.int (4) tk_BANDS)))
  {tk_BOOK_LENGTH:Tok} (nc_BOOK_LENGTH:PySem.W.nsIn K mainGlobals "BOOK_LENGTH" = some (some (.int (36) tk_BOOK_LENGTH)))
  {tk_FEWEST_CORNERS:Tok} (nc_FEWEST_CORNERS:PySem.W.nsIn K mainGlobals "FEWEST_CORNERS" = some (some (.int (3) tk_FEWEST_CORNERS)))
  {tk_FINE:Tok} (nc_FINE:PySem.W.nsIn K mainGlobals "FINE" = some (some (.int (0) tk_FINE)))
  {tk_GREATEST_GAIN:Tok} (nc_GREATEST_GAIN:PySem.W.nsIn K mainGlobals "GREATEST_GAIN" = some (some (.int (4294967296) tk_GREATEST_GAIN)))
  {tk_GREATEST_PLACE:Tok} (nc_GREATEST_PLACE:PySem.W.nsIn K mainGlobals "GREATEST_PLACE" = some (some (.int (4095) tk_GREATEST_PLACE)))
  {tk_GREATEST_STUFF:Tok} (nc_GREATEST_STUFF:PySem.W.nsIn K mainGlobals "GREATEST_STUFF" = some (some (.int (7) tk_GREATEST_STUFF)))
  {tk_MOST_CORNERS:Tok} (nc_MOST_CORNERS:PySem.W.nsIn K mainGlobals "MOST_CORNERS" = some (some (.int (64) tk_MOST_CORNERS)))
  {tk_MOST_TURNS:Tok} (nc_MOST_TURNS:PySem.W.nsIn K mainGlobals "MOST_TURNS" = some (some (.int (4) tk_MOST_TURNS)))
  {tk_NOT_INSIDE:Tok} (nc_NOT_INSIDE:PySem.W.nsIn K mainGlobals "NOT_INSIDE" = some (some (.int (-3) tk_NOT_INSIDE)))
  {tk_NO_BOOK:Tok} (nc_NO_BOOK:PySem.W.nsIn K mainGlobals "NO_BOOK" = some (some (.int (-6) tk_NO_BOOK)))
  {tk_NO_PATH:Tok} (nc_NO_PATH:PySem.W.nsIn K mainGlobals "NO_PATH" = some (some (.int (-2) tk_NO_PATH)))
  {tk_NO_ROOM:Tok} (nc_NO_ROOM:PySem.W.nsIn K mainGlobals "NO_ROOM" = some (some (.int (-5) tk_NO_ROOM)))
  {tk_OUT_OF_RANGE:Tok} (nc_OUT_OF_RANGE:PySem.W.nsIn K mainGlobals "OUT_OF_RANGE" = some (some (.int (-1) tk_OUT_OF_RANGE)))
  {tk_WHOLE_PART:Tok} (nc_WHOLE_PART:PySem.W.nsIn K mainGlobals "WHOLE_PART" = some (some (.int (32768) tk_WHOLE_PART)))
  {f0:Addr} {od0 an0:Option Addr} {sl0:Array (Option Value)} {oc0 kV0 dc0 pm0 cd0 ct0:Value}
  (a0:PySem.W.nsIn K mainGlobals "find_book_fault" = some (some (.ref f0))) (l0:K.lookup f0=some ⟨oc0,od0,.func (PySem.W.fnOf "find_book_fault" "find_book_fault" (defArgs s_find_book_fault) (defBody s_find_book_fault) (defScope s_find_book_fault) .none kV0 dc0 pm0 an0 cd0 ct0),sl0⟩) (c0:PySem.W.codeIn K cd0 "find_book_fault" = true) (k0:PySem.W.keepIn K (.ref f0)=true)
  {f1:Addr} {od1 an1:Option Addr} {sl1:Array (Option Value)} {oc1 kV1 dc1 pm1 cd1 ct1:Value}
  (a1:PySem.W.nsIn K mainGlobals "find_root" = some (some (.ref f1))) (l1:K.lookup f1=some ⟨oc1,od1,.func (PySem.W.fnOf "find_root" "find_root" (defArgs s_find_root) (defBody s_find_root) (defScope s_find_root) .none kV1 dc1 pm1 an1 cd1 ct1),sl1⟩) (c1:PySem.W.codeIn K cd1 "find_root" = true) (k1:PySem.W.keepIn K (.ref f1)=true)
  {f2:Addr} {od2 an2:Option Addr} {sl2:Array (Option Value)} {oc2 kV2 dc2 pm2 cd2 ct2:Value}
  (a2:PySem.W.nsIn K mainGlobals "list_parts" = some (some (.ref f2))) (l2:K.lookup f2=some ⟨oc2,od2,.func (PySem.W.fnOf "list_parts" "list_parts" (defArgs s_list_parts) (defBody s_list_parts) (defScope s_list_parts) .none kV2 dc2 pm2 an2 cd2 ct2),sl2⟩) (c2:PySem.W.codeIn K cd2 "list_parts" = true) (k2:PySem.W.keepIn K (.ref f2)=true)
  {f3:Addr} {od3 an3:Option Addr} {sl3:Array (Option Value)} {oc3 kV3 dc3 pm3 cd3 ct3:Value}
  (a3:PySem.W.nsIn K mainGlobals "find_gain" = some (some (.ref f3))) (l3:K.lookup f3=some ⟨oc3,od3,.func (PySem.W.fnOf "find_gain" "find_gain" (defArgs s_find_gain) (defBody s_find_gain) (defScope s_find_gain) .none kV3 dc3 pm3 an3 cd3 ct3),sl3⟩) (c3:PySem.W.codeIn K cd3 "find_gain" = true) (k3:PySem.W.keepIn K (.ref f3)=true)
  {f4:Addr} {od4 an4:Option Addr} {sl4:Array (Option Value)} {oc4 kV4 dc4 pm4 cd4 ct4:Value}
  (a4:PySem.W.nsIn K mainGlobals "list_corners" = some (some (.ref f4))) (l4:K.lookup f4=some ⟨oc4,od4,.func (PySem.W.fnOf "list_corners" "list_corners" (defArgs s_list_corners) (defBody s_list_corners) (defScope s_list_corners) .none kV4 dc4 pm4 an4 cd4 ct4),sl4⟩) (c4:PySem.W.codeIn K cd4 "list_corners" = true) (k4:PySem.W.keepIn K (.ref f4)=true)
  {f5:Addr} {od5 an5:Option Addr} {sl5:Array (Option Value)} {oc5 kV5 dc5 pm5 cd5 ct5:Value}
  (a5:PySem.W.nsIn K mainGlobals "count_walls" = some (some (.ref f5))) (l5:K.lookup f5=some ⟨oc5,od5,.func (PySem.W.fnOf "count_walls" "count_walls" (defArgs s_count_walls) (defBody s_count_walls) (defScope s_count_walls) .none kV5 dc5 pm5 an5 cd5 ct5),sl5⟩) (c5:PySem.W.codeIn K cd5 "count_walls" = true) (k5:PySem.W.keepIn K (.ref f5)=true)
  {f6:Addr} {od6 an6:Option Addr} {sl6:Array (Option Value)} {oc6 kV6 dc6 pm6 cd6 ct6:Value}
  (a6:PySem.W.nsIn K mainGlobals "find_stuff" = some (some (.ref f6))) (l6:K.lookup f6=some ⟨oc6,od6,.func (PySem.W.fnOf "find_stuff" "find_stuff" (defArgs s_find_stuff) (defBody s_find_stuff) (defScope s_find_stuff) .none kV6 dc6 pm6 an6 cd6 ct6),sl6⟩) (c6:PySem.W.codeIn K cd6 "find_stuff" = true) (k6:PySem.W.keepIn K (.ref f6)=true)
  {f7:Addr} {od7 an7:Option Addr} {sl7:Array (Option Value)} {oc7 kV7 dc7 pm7 cd7 ct7:Value}
  (a7:PySem.W.nsIn K mainGlobals "has_right_length" = some (some (.ref f7))) (l7:K.lookup f7=some ⟨oc7,od7,.func (PySem.W.fnOf "has_right_length" "has_right_length" (defArgs s_has_right_length) (defBody s_has_right_length) (defScope s_has_right_length) .none kV7 dc7 pm7 an7 cd7 ct7),sl7⟩) (c7:PySem.W.codeIn K cd7 "has_right_length" = true) (k7:PySem.W.keepIn K (.ref f7)=true)
  {f8:Addr} {od8 an8:Option Addr} {sl8:Array (Option Value)} {oc8 kV8 dc8 pm8 cd8 ct8:Value}
  (a8:PySem.W.nsIn K mainGlobals "is_place" = some (some (.ref f8))) (l8:K.lookup f8=some ⟨oc8,od8,.func (PySem.W.fnOf "is_place" "is_place" (defArgs s_is_place) (defBody s_is_place) (defScope s_is_place) .none kV8 dc8 pm8 an8 cd8 ct8),sl8⟩) (c8:PySem.W.codeIn K cd8 "is_place" = true) (k8:PySem.W.keepIn K (.ref f8)=true)
  {f9:Addr} {od9 an9:Option Addr} {sl9:Array (Option Value)} {oc9 kV9 dc9 pm9 cd9 ct9:Value}
  (a9:PySem.W.nsIn K mainGlobals "is_stuff" = some (some (.ref f9))) (l9:K.lookup f9=some ⟨oc9,od9,.func (PySem.W.fnOf "is_stuff" "is_stuff" (defArgs s_is_stuff) (defBody s_is_stuff) (defScope s_is_stuff) .none kV9 dc9 pm9 an9 cd9 ct9),sl9⟩) (c9:PySem.W.codeIn K cd9 "is_stuff" = true) (k9:PySem.W.keepIn K (.ref f9)=true)
  {f10:Addr} {od10 an10:Option Addr} {sl10:Array (Option Value)} {oc10 kV10 dc10 pm10 cd10 ct10:Value}
  (a10:PySem.W.nsIn K mainGlobals "has_right_head" = some (some (.ref f10))) (l10:K.lookup f10=some ⟨oc10,od10,.func (PySem.W.fnOf "has_right_head" "has_right_head" (defArgs s_has_right_head) (defBody s_has_right_head) (defScope s_has_right_head) .none kV10 dc10 pm10 an10 cd10 ct10),sl10⟩) (c10:PySem.W.codeIn K cd10 "has_right_head" = true) (k10:PySem.W.keepIn K (.ref f10)=true)
  {f11:Addr} {od11 an11:Option Addr} {sl11:Array (Option Value)} {oc11 kV11 dc11 pm11 cd11 ct11:Value}
  (a11:PySem.W.nsIn K mainGlobals "is_corner" = some (some (.ref f11))) (l11:K.lookup f11=some ⟨oc11,od11,.func (PySem.W.fnOf "is_corner" "is_corner" (defArgs s_is_corner) (defBody s_is_corner) (defScope s_is_corner) .none kV11 dc11 pm11 an11 cd11 ct11),sl11⟩) (c11:PySem.W.codeIn K cd11 "is_corner" = true) (k11:PySem.W.keepIn K (.ref f11)=true)
  {f12:Addr} {od12 an12:Option Addr} {sl12:Array (Option Value)} {oc12 kV12 dc12 pm12 cd12 ct12:Value}
  (a12:PySem.W.nsIn K mainGlobals "find_ends" = some (some (.ref f12))) (l12:K.lookup f12=some ⟨oc12,od12,.func (PySem.W.fnOf "find_ends" "find_ends" (defArgs s_find_ends) (defBody s_find_ends) (defScope s_find_ends) .none kV12 dc12 pm12 an12 cd12 ct12),sl12⟩) (c12:PySem.W.codeIn K cd12 "find_ends" = true) (k12:PySem.W.keepIn K (.ref f12)=true)
  {f13:Addr} {od13 an13:Option Addr} {sl13:Array (Option Value)} {oc13 kV13 dc13 pm13 cd13 ct13:Value}
  (a13:PySem.W.nsIn K mainGlobals "find_run" = some (some (.ref f13))) (l13:K.lookup f13=some ⟨oc13,od13,.func (PySem.W.fnOf "find_run" "find_run" (defArgs s_find_run) (defBody s_find_run) (defScope s_find_run) .none kV13 dc13 pm13 an13 cd13 ct13),sl13⟩) (c13:PySem.W.codeIn K cd13 "find_run" = true) (k13:PySem.W.keepIn K (.ref f13)=true)
  {f14:Addr} {od14 an14:Option Addr} {sl14:Array (Option Value)} {oc14 kV14 dc14 pm14 cd14 ct14:Value}
  (a14:PySem.W.nsIn K mainGlobals "runs_in_a_direction" = some (some (.ref f14))) (l14:K.lookup f14=some ⟨oc14,od14,.func (PySem.W.fnOf "runs_in_a_direction" "runs_in_a_direction" (defArgs s_runs_in_a_direction) (defBody s_runs_in_a_direction) (defScope s_runs_in_a_direction) .none kV14 dc14 pm14 an14 cd14 ct14),sl14⟩) (c14:PySem.W.codeIn K cd14 "runs_in_a_direction" = true) (k14:PySem.W.keepIn K (.ref f14)=true)
  {f15:Addr} {od15 an15:Option Addr} {sl15:Array (Option Value)} {oc15 kV15 dc15 pm15 cd15 ct15:Value}
  (a15:PySem.W.nsIn K mainGlobals "goes_straight_on" = some (some (.ref f15))) (l15:K.lookup f15=some ⟨oc15,od15,.func (PySem.W.fnOf "goes_straight_on" "goes_straight_on" (defArgs s_goes_straight_on) (defBody s_goes_straight_on) (defScope s_goes_straight_on) .none kV15 dc15 pm15 an15 cd15 ct15),sl15⟩) (c15:PySem.W.codeIn K cd15 "goes_straight_on" = true) (k15:PySem.W.keepIn K (.ref f15)=true)
  {f16:Addr} {od16 an16:Option Addr} {sl16:Array (Option Value)} {oc16 kV16 dc16 pm16 cd16 ct16:Value}
  (a16:PySem.W.nsIn K mainGlobals "find_side" = some (some (.ref f16))) (l16:K.lookup f16=some ⟨oc16,od16,.func (PySem.W.fnOf "find_side" "find_side" (defArgs s_find_side) (defBody s_find_side) (defScope s_find_side) .none kV16 dc16 pm16 an16 cd16 ct16),sl16⟩) (c16:PySem.W.codeIn K cd16 "find_side" = true) (k16:PySem.W.keepIn K (.ref f16)=true)
  {f17:Addr} {od17 an17:Option Addr} {sl17:Array (Option Value)} {oc17 kV17 dc17 pm17 cd17 ct17:Value}
  (a17:PySem.W.nsIn K mainGlobals "ranges_meet" = some (some (.ref f17))) (l17:K.lookup f17=some ⟨oc17,od17,.func (PySem.W.fnOf "ranges_meet" "ranges_meet" (defArgs s_ranges_meet) (defBody s_ranges_meet) (defScope s_ranges_meet) .none kV17 dc17 pm17 an17 cd17 ct17),sl17⟩) (c17:PySem.W.codeIn K cd17 "ranges_meet" = true) (k17:PySem.W.keepIn K (.ref f17)=true)
  {f18:Addr} {od18 an18:Option Addr} {sl18:Array (Option Value)} {oc18 kV18 dc18 pm18 cd18 ct18:Value}
  (a18:PySem.W.nsIn K mainGlobals "reaches_across" = some (some (.ref f18))) (l18:K.lookup f18=some ⟨oc18,od18,.func (PySem.W.fnOf "reaches_across" "reaches_across" (defArgs s_reaches_across) (defBody s_reaches_across) (defScope s_reaches_across) .none kV18 dc18 pm18 an18 cd18 ct18),sl18⟩) (c18:PySem.W.codeIn K cd18 "reaches_across" = true) (k18:PySem.W.keepIn K (.ref f18)=true)
  {f19:Addr} {od19 an19:Option Addr} {sl19:Array (Option Value)} {oc19 kV19 dc19 pm19 cd19 ct19:Value}
  (a19:PySem.W.nsIn K mainGlobals "lines_meet" = some (some (.ref f19))) (l19:K.lookup f19=some ⟨oc19,od19,.func (PySem.W.fnOf "lines_meet" "lines_meet" (defArgs s_lines_meet) (defBody s_lines_meet) (defScope s_lines_meet) .none kV19 dc19 pm19 an19 cd19 ct19),sl19⟩) (c19:PySem.W.codeIn K cd19 "lines_meet" = true) (k19:PySem.W.keepIn K (.ref f19)=true)
  {f20:Addr} {od20 an20:Option Addr} {sl20:Array (Option Value)} {oc20 kV20 dc20 pm20 cd20 ct20:Value}
  (a20:PySem.W.nsIn K mainGlobals "is_crossed_ahead" = some (some (.ref f20))) (l20:K.lookup f20=some ⟨oc20,od20,.func (PySem.W.fnOf "is_crossed_ahead" "is_crossed_ahead" (defArgs s_is_crossed_ahead) (defBody s_is_crossed_ahead) (defScope s_is_crossed_ahead) .none kV20 dc20 pm20 an20 cd20 ct20),sl20⟩) (c20:PySem.W.codeIn K cd20 "is_crossed_ahead" = true) (k20:PySem.W.keepIn K (.ref f20)=true)
  {f21:Addr} {od21 an21:Option Addr} {sl21:Array (Option Value)} {oc21 kV21 dc21 pm21 cd21 ct21:Value}
  (a21:PySem.W.nsIn K mainGlobals "is_within" = some (some (.ref f21))) (l21:K.lookup f21=some ⟨oc21,od21,.func (PySem.W.fnOf "is_within" "is_within" (defArgs s_is_within) (defBody s_is_within) (defScope s_is_within) .none kV21 dc21 pm21 an21 cd21 ct21),sl21⟩) (c21:PySem.W.codeIn K cd21 "is_within" = true) (k21:PySem.W.keepIn K (.ref f21)=true)
  {f22:Addr} {od22 an22:Option Addr} {sl22:Array (Option Value)} {oc22 kV22 dc22 pm22 cd22 ct22:Value}
  (a22:PySem.W.nsIn K mainGlobals "is_inside" = some (some (.ref f22))) (l22:K.lookup f22=some ⟨oc22,od22,.func (PySem.W.fnOf "is_inside" "is_inside" (defArgs s_is_inside) (defBody s_is_inside) (defScope s_is_inside) .none kV22 dc22 pm22 an22 cd22 ct22),sl22⟩) (c22:PySem.W.codeIn K cd22 "is_inside" = true) (k22:PySem.W.keepIn K (.ref f22)=true)
  {f23:Addr} {od23 an23:Option Addr} {sl23:Array (Option Value)} {oc23 kV23 dc23 pm23 cd23 ct23:Value}
  (a23:PySem.W.nsIn K mainGlobals "meets_a_later_line" = some (some (.ref f23))) (l23:K.lookup f23=some ⟨oc23,od23,.func (PySem.W.fnOf "meets_a_later_line" "meets_a_later_line" (defArgs s_meets_a_later_line) (defBody s_meets_a_later_line) (defScope s_meets_a_later_line) .none kV23 dc23 pm23 an23 cd23 ct23),sl23⟩) (c23:PySem.W.codeIn K cd23 "meets_a_later_line" = true) (k23:PySem.W.keepIn K (.ref f23)=true)
  {f24:Addr} {od24 an24:Option Addr} {sl24:Array (Option Value)} {oc24 kV24 dc24 pm24 cd24 ct24:Value}
  (a24:PySem.W.nsIn K mainGlobals "breaks_rule" = some (some (.ref f24))) (l24:K.lookup f24=some ⟨oc24,od24,.func (PySem.W.fnOf "breaks_rule" "breaks_rule" (defArgs s_breaks_rule) (defBody s_breaks_rule) (defScope s_breaks_rule) .none kV24 dc24 pm24 an24 cd24 ct24),sl24⟩) (c24:PySem.W.codeIn K cd24 "breaks_rule" = true) (k24:PySem.W.keepIn K (.ref f24)=true)
  {f25:Addr} {od25 an25:Option Addr} {sl25:Array (Option Value)} {oc25 kV25 dc25 pm25 cd25 ct25:Value}
  (a25:PySem.W.nsIn K mainGlobals "measure_twice" = some (some (.ref f25))) (l25:K.lookup f25=some ⟨oc25,od25,.func (PySem.W.fnOf "measure_twice" "measure_twice" (defArgs s_measure_twice) (defBody s_measure_twice) (defScope s_measure_twice) .none kV25 dc25 pm25 an25 cd25 ct25),sl25⟩) (c25:PySem.W.codeIn K cd25 "measure_twice" = true) (k25:PySem.W.keepIn K (.ref f25)=true)
  {f26:Addr} {od26 an26:Option Addr} {sl26:Array (Option Value)} {oc26 kV26 dc26 pm26 cd26 ct26:Value}
  (a26:PySem.W.nsIn K mainGlobals "find_room_fault" = some (some (.ref f26))) (l26:K.lookup f26=some ⟨oc26,od26,.func (PySem.W.fnOf "find_room_fault" "find_room_fault" (defArgs s_find_room_fault) (defBody s_find_room_fault) (defScope s_find_room_fault) .none kV26 dc26 pm26 an26 cd26 ct26),sl26⟩) (c26:PySem.W.codeIn K cd26 "find_room_fault" = true) (k26:PySem.W.keepIn K (.ref f26)=true)
  {f27:Addr} {od27 an27:Option Addr} {sl27:Array (Option Value)} {oc27 kV27 dc27 pm27 cd27 ct27:Value}
  (a27:PySem.W.nsIn K mainGlobals "find_side_plane" = some (some (.ref f27))) (l27:K.lookup f27=some ⟨oc27,od27,.func (PySem.W.fnOf "find_side_plane" "find_side_plane" (defArgs s_find_side_plane) (defBody s_find_side_plane) (defScope s_find_side_plane) .none kV27 dc27 pm27 an27 cd27 ct27),sl27⟩) (c27:PySem.W.codeIn K cd27 "find_side_plane" = true) (k27:PySem.W.keepIn K (.ref f27)=true)
  {f28:Addr} {od28 an28:Option Addr} {sl28:Array (Option Value)} {oc28 kV28 dc28 pm28 cd28 ct28:Value}
  (a28:PySem.W.nsIn K mainGlobals "list_planes" = some (some (.ref f28))) (l28:K.lookup f28=some ⟨oc28,od28,.func (PySem.W.fnOf "list_planes" "list_planes" (defArgs s_list_planes) (defBody s_list_planes) (defScope s_list_planes) .none kV28 dc28 pm28 an28 cd28 ct28),sl28⟩) (c28:PySem.W.codeIn K cd28 "list_planes" = true) (k28:PySem.W.keepIn K (.ref f28)=true)
  {f29:Addr} {od29 an29:Option Addr} {sl29:Array (Option Value)} {oc29 kV29 dc29 pm29 cd29 ct29:Value}
  (a29:PySem.W.nsIn K mainGlobals "measure_height" = some (some (.ref f29))) (l29:K.lookup f29=some ⟨oc29,od29,.func (PySem.W.fnOf "measure_height" "measure_height" (defArgs s_measure_height) (defBody s_measure_height) (defScope s_measure_height) .none kV29 dc29 pm29 an29 cd29 ct29),sl29⟩) (c29:PySem.W.codeIn K cd29 "measure_height" = true) (k29:PySem.W.keepIn K (.ref f29)=true)
  {f30:Addr} {od30 an30:Option Addr} {sl30:Array (Option Value)} {oc30 kV30 dc30 pm30 cd30 ct30:Value}
  (a30:PySem.W.nsIn K mainGlobals "mirror" = some (some (.ref f30))) (l30:K.lookup f30=some ⟨oc30,od30,.func (PySem.W.fnOf "mirror" "mirror" (defArgs s_mirror) (defBody s_mirror) (defScope s_mirror) .none kV30 dc30 pm30 an30 cd30 ct30),sl30⟩) (c30:PySem.W.codeIn K cd30 "mirror" = true) (k30:PySem.W.keepIn K (.ref f30)=true)
  {f31:Addr} {od31 an31:Option Addr} {sl31:Array (Option Value)} {oc31 kV31 dc31 pm31 cd31 ct31:Value}
  (a31:PySem.W.nsIn K mainGlobals "lengthen_way" = some (some (.ref f31))) (l31:K.lookup f31=some ⟨oc31,od31,.func (PySem.W.fnOf "lengthen_way" "lengthen_way" (defArgs s_lengthen_way) (defBody s_lengthen_way) (defScope s_lengthen_way) .none kV31 dc31 pm31 an31 cd31 ct31),sl31⟩) (c31:PySem.W.codeIn K cd31 "lengthen_way" = true) (k31:PySem.W.keepIn K (.ref f31)=true)
  {f32:Addr} {od32 an32:Option Addr} {sl32:Array (Option Value)} {oc32 kV32 dc32 pm32 cd32 ct32:Value}
  (a32:PySem.W.nsIn K mainGlobals "list_ways" = some (some (.ref f32))) (l32:K.lookup f32=some ⟨oc32,od32,.func (PySem.W.fnOf "list_ways" "list_ways" (defArgs s_list_ways) (defBody s_list_ways) (defScope s_list_ways) .none kV32 dc32 pm32 an32 cd32 ct32),sl32⟩) (c32:PySem.W.codeIn K cd32 "list_ways" = true) (k32:PySem.W.keepIn K (.ref f32)=true)
  {f33:Addr} {od33 an33:Option Addr} {sl33:Array (Option Value)} {oc33 kV33 dc33 pm33 cd33 ct33:Value}
  (a33:PySem.W.nsIn K mainGlobals "list_seen_ends" = some (some (.ref f33))) (l33:K.lookup f33=some ⟨oc33,od33,.func (PySem.W.fnOf "list_seen_ends" "list_seen_ends" (defArgs s_list_seen_ends) (defBody s_list_seen_ends) (defScope s_list_seen_ends) .none kV33 dc33 pm33 an33 cd33 ct33),sl33⟩) (c33:PySem.W.codeIn K cd33 "list_seen_ends" = true) (k33:PySem.W.keepIn K (.ref f33)=true)
  {f34:Addr} {od34 an34:Option Addr} {sl34:Array (Option Value)} {oc34 kV34 dc34 pm34 cd34 ct34:Value}
  (a34:PySem.W.nsIn K mainGlobals "list_heights" = some (some (.ref f34))) (l34:K.lookup f34=some ⟨oc34,od34,.func (PySem.W.fnOf "list_heights" "list_heights" (defArgs s_list_heights) (defBody s_list_heights) (defScope s_list_heights) .none kV34 dc34 pm34 an34 cd34 ct34),sl34⟩) (c34:PySem.W.codeIn K cd34 "list_heights" = true) (k34:PySem.W.keepIn K (.ref f34)=true)
  {f35:Addr} {od35 an35:Option Addr} {sl35:Array (Option Value)} {oc35 kV35 dc35 pm35 cd35 ct35:Value}
  (a35:PySem.W.nsIn K mainGlobals "are_in_order" = some (some (.ref f35))) (l35:K.lookup f35=some ⟨oc35,od35,.func (PySem.W.fnOf "are_in_order" "are_in_order" (defArgs s_are_in_order) (defBody s_are_in_order) (defScope s_are_in_order) .none kV35 dc35 pm35 an35 cd35 ct35),sl35⟩) (c35:PySem.W.codeIn K cd35 "are_in_order" = true) (k35:PySem.W.keepIn K (.ref f35)=true)
  {f36:Addr} {od36 an36:Option Addr} {sl36:Array (Option Value)} {oc36 kV36 dc36 pm36 cd36 ct36:Value}
  (a36:PySem.W.nsIn K mainGlobals "part_way" = some (some (.ref f36))) (l36:K.lookup f36=some ⟨oc36,od36,.func (PySem.W.fnOf "part_way" "part_way" (defArgs s_part_way) (defBody s_part_way) (defScope s_part_way) .none kV36 dc36 pm36 an36 cd36 ct36),sl36⟩) (c36:PySem.W.codeIn K cd36 "part_way" = true) (k36:PySem.W.keepIn K (.ref f36)=true)
  {f37:Addr} {od37 an37:Option Addr} {sl37:Array (Option Value)} {oc37 kV37 dc37 pm37 cd37 ct37:Value}
  (a37:PySem.W.nsIn K mainGlobals "enlarge" = some (some (.ref f37))) (l37:K.lookup f37=some ⟨oc37,od37,.func (PySem.W.fnOf "enlarge" "enlarge" (defArgs s_enlarge) (defBody s_enlarge) (defScope s_enlarge) .none kV37 dc37 pm37 an37 cd37 ct37),sl37⟩) (c37:PySem.W.codeIn K cd37 "enlarge" = true) (k37:PySem.W.keepIn K (.ref f37)=true)
  {f38:Addr} {od38 an38:Option Addr} {sl38:Array (Option Value)} {oc38 kV38 dc38 pm38 cd38 ct38:Value}
  (a38:PySem.W.nsIn K mainGlobals "is_in_open_wall" = some (some (.ref f38))) (l38:K.lookup f38=some ⟨oc38,od38,.func (PySem.W.fnOf "is_in_open_wall" "is_in_open_wall" (defArgs s_is_in_open_wall) (defBody s_is_in_open_wall) (defScope s_is_in_open_wall) .none kV38 dc38 pm38 an38 cd38 ct38),sl38⟩) (c38:PySem.W.codeIn K cd38 "is_in_open_wall" = true) (k38:PySem.W.keepIn K (.ref f38)=true)
  {f39:Addr} {od39 an39:Option Addr} {sl39:Array (Option Value)} {oc39 kV39 dc39 pm39 cd39 ct39:Value}
  (a39:PySem.W.nsIn K mainGlobals "cuts_leg" = some (some (.ref f39))) (l39:K.lookup f39=some ⟨oc39,od39,.func (PySem.W.fnOf "cuts_leg" "cuts_leg" (defArgs s_cuts_leg) (defBody s_cuts_leg) (defScope s_cuts_leg) .none kV39 dc39 pm39 an39 cd39 ct39),sl39⟩) (c39:PySem.W.codeIn K cd39 "cuts_leg" = true) (k39:PySem.W.keepIn K (.ref f39)=true)
  {f40:Addr} {od40 an40:Option Addr} {sl40:Array (Option Value)} {oc40 kV40 dc40 pm40 cd40 ct40:Value}
  (a40:PySem.W.nsIn K mainGlobals "is_clear" = some (some (.ref f40))) (l40:K.lookup f40=some ⟨oc40,od40,.func (PySem.W.fnOf "is_clear" "is_clear" (defArgs s_is_clear) (defBody s_is_clear) (defScope s_is_clear) .none kV40 dc40 pm40 an40 cd40 ct40),sl40⟩) (c40:PySem.W.codeIn K cd40 "is_clear" = true) (k40:PySem.W.keepIn K (.ref f40)=true)
  {f41:Addr} {od41 an41:Option Addr} {sl41:Array (Option Value)} {oc41 kV41 dc41 pm41 cd41 ct41:Value}
  (a41:PySem.W.nsIn K mainGlobals "is_path" = some (some (.ref f41))) (l41:K.lookup f41=some ⟨oc41,od41,.func (PySem.W.fnOf "is_path" "is_path" (defArgs s_is_path) (defBody s_is_path) (defScope s_is_path) .none kV41 dc41 pm41 an41 cd41 ct41),sl41⟩) (c41:PySem.W.codeIn K cd41 "is_path" = true) (k41:PySem.W.keepIn K (.ref f41)=true)
  {f42:Addr} {od42 an42:Option Addr} {sl42:Array (Option Value)} {oc42 kV42 dc42 pm42 cd42 ct42:Value}
  (a42:PySem.W.nsIn K mainGlobals "measure_length2" = some (some (.ref f42))) (l42:K.lookup f42=some ⟨oc42,od42,.func (PySem.W.fnOf "measure_length2" "measure_length2" (defArgs s_measure_length2) (defBody s_measure_length2) (defScope s_measure_length2) .none kV42 dc42 pm42 an42 cd42 ct42),sl42⟩) (c42:PySem.W.codeIn K cd42 "measure_length2" = true) (k42:PySem.W.keepIn K (.ref f42)=true)
  {f43:Addr} {od43 an43:Option Addr} {sl43:Array (Option Value)} {oc43 kV43 dc43 pm43 cd43 ct43:Value}
  (a43:PySem.W.nsIn K mainGlobals "find_paths" = some (some (.ref f43))) (l43:K.lookup f43=some ⟨oc43,od43,.func (PySem.W.fnOf "find_paths" "find_paths" (defArgs s_find_paths) (defBody s_find_paths) (defScope s_find_paths) .none kV43 dc43 pm43 an43 cd43 ct43),sl43⟩) (c43:PySem.W.codeIn K cd43 "find_paths" = true) (k43:PySem.W.keepIn K (.ref f43)=true)
  {f44:Addr} {od44 an44:Option Addr} {sl44:Array (Option Value)} {oc44 kV44 dc44 pm44 cd44 ct44:Value}
  (a44:PySem.W.nsIn K mainGlobals "refuse_room_or_book" = some (some (.ref f44))) (l44:K.lookup f44=some ⟨oc44,od44,.func (PySem.W.fnOf "refuse_room_or_book" "refuse_room_or_book" (defArgs s_refuse_room_or_book) (defBody s_refuse_room_or_book) (defScope s_refuse_room_or_book) .none kV44 dc44 pm44 an44 cd44 ct44),sl44⟩) (c44:PySem.W.codeIn K cd44 "refuse_room_or_book" = true) (k44:PySem.W.keepIn K (.ref f44)=true)
  {f45:Addr} {od45 an45:Option Addr} {sl45:Array (Option Value)} {oc45 kV45 dc45 pm45 cd45 ct45:Value}
  (a45:PySem.W.nsIn K mainGlobals "find_gain_by_walls" = some (some (.ref f45))) (l45:K.lookup f45=some ⟨oc45,od45,.func (PySem.W.fnOf "find_gain_by_walls" "find_gain_by_walls" (defArgs s_find_gain_by_walls) (defBody s_find_gain_by_walls) (defScope s_find_gain_by_walls) .none kV45 dc45 pm45 an45 cd45 ct45),sl45⟩) (c45:PySem.W.codeIn K cd45 "find_gain_by_walls" = true) (k45:PySem.W.keepIn K (.ref f45)=true)
  {f46:Addr} {od46 an46:Option Addr} {sl46:Array (Option Value)} {oc46 kV46 dc46 pm46 cd46 ct46:Value}
  (a46:PySem.W.nsIn K mainGlobals "refuse_way" = some (some (.ref f46))) (l46:K.lookup f46=some ⟨oc46,od46,.func (PySem.W.fnOf "refuse_way" "refuse_way" (defArgs s_refuse_way) (defBody s_refuse_way) (defScope s_refuse_way) .none kV46 dc46 pm46 an46 cd46 ct46),sl46⟩) (c46:PySem.W.codeIn K cd46 "refuse_way" = true) (k46:PySem.W.keepIn K (.ref f46)=true)
  {f47:Addr} {od47 an47:Option Addr} {sl47:Array (Option Value)} {oc47 kV47 dc47 pm47 cd47 ct47:Value}
  (a47:PySem.W.nsIn K mainGlobals "rank_path" = some (some (.ref f47))) (l47:K.lookup f47=some ⟨oc47,od47,.func (PySem.W.fnOf "rank_path" "rank_path" (defArgs s_rank_path) (defBody s_rank_path) (defScope s_rank_path) .none kV47 dc47 pm47 an47 cd47 ct47),sl47⟩) (c47:PySem.W.codeIn K cd47 "rank_path" = true) (k47:PySem.W.keepIn K (.ref f47)=true)
  {f48:Addr} {od48 an48:Option Addr} {sl48:Array (Option Value)} {oc48 kV48 dc48 pm48 cd48 ct48:Value}
  (a48:PySem.W.nsIn K mainGlobals "best" = some (some (.ref f48))) (l48:K.lookup f48=some ⟨oc48,od48,.func (PySem.W.fnOf "best" "best" (defArgs s_best) (defBody s_best) (defScope s_best) .none kV48 dc48 pm48 an48 cd48 ct48),sl48⟩) (c48:PySem.W.codeIn K cd48 "best" = true) (k48:PySem.W.keepIn K (.ref f48)=true)
  : ∃ fd:FuncData,(∀ (s:Shared) (us:List Value),us.length=(["x", "y", "z", "u", "v", "t", "most", "band", "room", "book"]:List Str).length->BindsTo s fd ⟨us,[]⟩ ((["x", "y", "z", "u", "v", "t", "most", "band", "room", "book"]:List Str).zip us))/\∀ base:Heap,K.In base->base.Ns mainGlobals mg->FnOk P w K mg base CX0 9 fa fd ["x", "y", "z", "u", "v", "t", "most", "band", "room", "book"] (spBest K):=by
 have T:Txt mg:=⟨PySem.W.mg_none_of X G nb_abs,PySem.W.mg_none_of X G nb_all,PySem.W.mg_none_of X G nb_any,PySem.W.mg_none_of X G nb_enumerate,PySem.W.mg_none_of X G nb_len,PySem.W.mg_none_of X G nb_list,PySem.W.mg_none_of X G nb_max,PySem.W.mg_none_of X G nb_min,PySem.W.mg_none_of X G nb_range,PySem.W.mg_none_of X G nb_reversed,PySem.W.mg_none_of X G nb_zip,⟨_,PySem.W.mg_of X G nc_AIR_PLACE⟩,⟨_,PySem.W.mg_of X G nc_AIR_STEP⟩,⟨_,PySem.W.mg_of X G nc_BANDS⟩,⟨_,PySem.W.mg_of X G nc_BOOK_LENGTH⟩,⟨_,PySem.W.mg_of X G nc_FEWEST_CORNERS⟩,⟨_,PySem.W.mg_of X G nc_FINE⟩,⟨_,PySem.W.mg_of X G nc_GREATEST_GAIN⟩,⟨_,PySem.W.mg_of X G nc_GREATEST_PLACE⟩,⟨_,PySem.W.mg_of X G nc_GREATEST_STUFF⟩,⟨_,PySem.W.mg_of X G nc_MOST_CORNERS⟩,⟨_,PySem.W.mg_of X G nc_MOST_TURNS⟩,⟨_,PySem.W.mg_of X G nc_NOT_INSIDE⟩,⟨_,PySem.W.mg_of X G nc_NO_BOOK⟩,⟨_,PySem.W.mg_of X G nc_NO_PATH⟩,⟨_,PySem.W.mg_of X G nc_NO_ROOM⟩,⟨_,PySem.W.mg_of X G nc_OUT_OF_RANGE⟩,⟨_,PySem.W.mg_of X G nc_WHOLE_PART⟩⟩
 have A_find_book_fault:At K mg "find_book_fault" s_find_book_fault ["book"]:=⟨f0,_,fun_mk (st:=s_find_book_fault) l0 c0 k0,PySem.W.mg_of X G a0,(fun_mk (st:=s_find_book_fault) l0 c0 k0).binds fun _ _ _ _ _ _=>lens fun _=>len0 rfl⟩
 have A_find_root:At K mg "find_root" s_find_root ["number"]:=⟨f1,_,fun_mk (st:=s_find_root) l1 c1 k1,PySem.W.mg_of X G a1,(fun_mk (st:=s_find_root) l1 c1 k1).binds fun _ _ _ _ _ _=>lens fun _=>len0 rfl⟩
 have A_list_parts:At K mg "list_parts" s_list_parts ["length2", "book", "stuffs", "band"]:=⟨f2,_,fun_mk (st:=s_list_parts) l2 c2 k2,PySem.W.mg_of X G a2,(fun_mk (st:=s_list_parts) l2 c2 k2).binds fun _ _ _ _ _ _=>lens fun _=>lens fun _=>lens fun _=>lens fun _=>len0 rfl⟩
 have A_find_gain:At K mg "find_gain" s_find_gain ["length2", "book", "stuffs", "band"]:=⟨f3,_,fun_mk (st:=s_find_gain) l3 c3 k3,PySem.W.mg_of X G a3,(fun_mk (st:=s_find_gain) l3 c3 k3).binds fun _ _ _ _ _ _=>lens fun _=>lens fun _=>lens fun _=>lens fun _=>len0 rfl⟩
 have A_list_corners:At K mg "list_corners" s_list_corners ["room"]:=⟨f4,_,fun_mk (st:=s_list_corners) l4 c4 k4,PySem.W.mg_of X G a4,(fun_mk (st:=s_list_corners) l4 c4 k4).binds fun _ _ _ _ _ _=>lens fun _=>len0 rfl⟩
 have A_count_walls:At K mg "count_walls" s_count_walls ["room"]:=⟨f5,_,fun_mk (st:=s_count_walls) l5 c5 k5,PySem.W.mg_of X G a5,(fun_mk (st:=s_count_walls) l5 c5 k5).binds fun _ _ _ _ _ _=>lens fun _=>len0 rfl⟩
 have A_find_stuff:At K mg "find_stuff" s_find_stuff ["room", "wall"]:=⟨f6,_,fun_mk (st:=s_find_stuff) l6 c6 k6,PySem.W.mg_of X G a6,(fun_mk (st:=s_find_stuff) l6 c6 k6).binds fun _ _ _ _ _ _=>lens fun _=>lens fun _=>len0 rfl⟩
 have A_has_right_length:At K mg "has_right_length" s_has_right_length ["room"]:=⟨f7,_,fun_mk (st:=s_has_right_length) l7 c7 k7,PySem.W.mg_of X G a7,(fun_mk (st:=s_has_right_length) l7 c7 k7).binds fun _ _ _ _ _ _=>lens fun _=>len0 rfl⟩
 have A_is_place:At K mg "is_place" s_is_place ["number"]:=⟨f8,_,fun_mk (st:=s_is_place) l8 c8 k8,PySem.W.mg_of X G a8,(fun_mk (st:=s_is_place) l8 c8 k8).binds fun _ _ _ _ _ _=>lens fun _=>len0 rfl⟩
 have A_is_stuff:At K mg "is_stuff" s_is_stuff ["number"]:=⟨f9,_,fun_mk (st:=s_is_stuff) l9 c9 k9,PySem.W.mg_of X G a9,(fun_mk (st:=s_is_stuff) l9 c9 k9).binds fun _ _ _ _ _ _=>lens fun _=>len0 rfl⟩
 have A_has_right_head:At K mg "has_right_head" s_has_right_head ["room"]:=⟨f10,_,fun_mk (st:=s_has_right_head) l10 c10 k10,PySem.W.mg_of X G a10,(fun_mk (st:=s_has_right_head) l10 c10 k10).binds fun _ _ _ _ _ _=>lens fun _=>len0 rfl⟩
 have A_is_corner:At K mg "is_corner" s_is_corner ["corner"]:=⟨f11,_,fun_mk (st:=s_is_corner) l11 c11 k11,PySem.W.mg_of X G a11,(fun_mk (st:=s_is_corner) l11 c11 k11).binds fun _ _ _ _ _ _=>lens fun _=>len0 rfl⟩
 have A_find_ends:At K mg "find_ends" s_find_ends ["corners", "line"]:=⟨f12,_,fun_mk (st:=s_find_ends) l12 c12 k12,PySem.W.mg_of X G a12,(fun_mk (st:=s_find_ends) l12 c12 k12).binds fun _ _ _ _ _ _=>lens fun _=>lens fun _=>len0 rfl⟩
 have A_find_run:At K mg "find_run" s_find_run ["corners", "line"]:=⟨f13,_,fun_mk (st:=s_find_run) l13 c13 k13,PySem.W.mg_of X G a13,(fun_mk (st:=s_find_run) l13 c13 k13).binds fun _ _ _ _ _ _=>lens fun _=>lens fun _=>len0 rfl⟩
 have A_runs_in_a_direction:At K mg "runs_in_a_direction" s_runs_in_a_direction ["corners", "line"]:=⟨f14,_,fun_mk (st:=s_runs_in_a_direction) l14 c14 k14,PySem.W.mg_of X G a14,(fun_mk (st:=s_runs_in_a_direction) l14 c14 k14).binds fun _ _ _ _ _ _=>lens fun _=>lens fun _=>len0 rfl⟩
 have A_goes_straight_on:At K mg "goes_straight_on" s_goes_straight_on ["corners", "line"]:=⟨f15,_,fun_mk (st:=s_goes_straight_on) l15 c15 k15,PySem.W.mg_of X G a15,(fun_mk (st:=s_goes_straight_on) l15 c15 k15).binds fun _ _ _ _ _ _=>lens fun _=>lens fun _=>len0 rfl⟩
 have A_find_side:At K mg "find_side" s_find_side ["start", "end", "point"]:=⟨f16,_,fun_mk (st:=s_find_side) l16 c16 k16,PySem.W.mg_of X G a16,(fun_mk (st:=s_find_side) l16 c16 k16).binds fun _ _ _ _ _ _=>lens fun _=>lens fun _=>lens fun _=>len0 rfl⟩
 have A_ranges_meet:At K mg "ranges_meet" s_ranges_meet ["first", "second", "axis"]:=⟨f17,_,fun_mk (st:=s_ranges_meet) l17 c17 k17,PySem.W.mg_of X G a17,(fun_mk (st:=s_ranges_meet) l17 c17 k17).binds fun _ _ _ _ _ _=>lens fun _=>lens fun _=>lens fun _=>len0 rfl⟩
 have A_reaches_across:At K mg "reaches_across" s_reaches_across ["first", "second"]:=⟨f18,_,fun_mk (st:=s_reaches_across) l18 c18 k18,PySem.W.mg_of X G a18,(fun_mk (st:=s_reaches_across) l18 c18 k18).binds fun _ _ _ _ _ _=>lens fun _=>lens fun _=>len0 rfl⟩
 have A_lines_meet:At K mg "lines_meet" s_lines_meet ["first", "second"]:=⟨f19,_,fun_mk (st:=s_lines_meet) l19 c19 k19,PySem.W.mg_of X G a19,(fun_mk (st:=s_lines_meet) l19 c19 k19).binds fun _ _ _ _ _ _=>lens fun _=>lens fun _=>len0 rfl⟩
 have A_is_crossed_ahead:At K mg "is_crossed_ahead" s_is_crossed_ahead ["line", "point"]:=⟨f20,_,fun_mk (st:=s_is_crossed_ahead) l20 c20 k20,PySem.W.mg_of X G a20,(fun_mk (st:=s_is_crossed_ahead) l20 c20 k20).binds fun _ _ _ _ _ _=>lens fun _=>lens fun _=>len0 rfl⟩
 have A_is_within:At K mg "is_within" s_is_within ["corners", "point"]:=⟨f21,_,fun_mk (st:=s_is_within) l21 c21 k21,PySem.W.mg_of X G a21,(fun_mk (st:=s_is_within) l21 c21 k21).binds fun _ _ _ _ _ _=>lens fun _=>lens fun _=>len0 rfl⟩
 have A_is_inside:At K mg "is_inside" s_is_inside ["room", "point"]:=⟨f22,_,fun_mk (st:=s_is_inside) l22 c22 k22,PySem.W.mg_of X G a22,(fun_mk (st:=s_is_inside) l22 c22 k22).binds fun _ _ _ _ _ _=>lens fun _=>lens fun _=>len0 rfl⟩
 have A_meets_a_later_line:At K mg "meets_a_later_line" s_meets_a_later_line ["corners", "line"]:=⟨f23,_,fun_mk (st:=s_meets_a_later_line) l23 c23 k23,PySem.W.mg_of X G a23,(fun_mk (st:=s_meets_a_later_line) l23 c23 k23).binds fun _ _ _ _ _ _=>lens fun _=>lens fun _=>len0 rfl⟩
 have A_breaks_rule:At K mg "breaks_rule" s_breaks_rule ["corners", "rule", "wall"]:=⟨f24,_,fun_mk (st:=s_breaks_rule) l24 c24 k24,PySem.W.mg_of X G a24,(fun_mk (st:=s_breaks_rule) l24 c24 k24).binds fun _ _ _ _ _ _=>lens fun _=>lens fun _=>lens fun _=>len0 rfl⟩
 have A_measure_twice:At K mg "measure_twice" s_measure_twice ["corners"]:=⟨f25,_,fun_mk (st:=s_measure_twice) l25 c25 k25,PySem.W.mg_of X G a25,(fun_mk (st:=s_measure_twice) l25 c25 k25).binds fun _ _ _ _ _ _=>lens fun _=>len0 rfl⟩
 have A_find_room_fault:At K mg "find_room_fault" s_find_room_fault ["room"]:=⟨f26,_,fun_mk (st:=s_find_room_fault) l26 c26 k26,PySem.W.mg_of X G a26,(fun_mk (st:=s_find_room_fault) l26 c26 k26).binds fun _ _ _ _ _ _=>lens fun _=>len0 rfl⟩
 have A_find_side_plane:At K mg "find_side_plane" s_find_side_plane ["corners", "wall"]:=⟨f27,_,fun_mk (st:=s_find_side_plane) l27 c27 k27,PySem.W.mg_of X G a27,(fun_mk (st:=s_find_side_plane) l27 c27 k27).binds fun _ _ _ _ _ _=>lens fun _=>lens fun _=>len0 rfl⟩
 have A_list_planes:At K mg "list_planes" s_list_planes ["room"]:=⟨f28,_,fun_mk (st:=s_list_planes) l28 c28 k28,PySem.W.mg_of X G a28,(fun_mk (st:=s_list_planes) l28 c28 k28).binds fun _ _ _ _ _ _=>lens fun _=>len0 rfl⟩
 have A_measure_height:At K mg "measure_height" s_measure_height ["plane", "point"]:=⟨f29,_,fun_mk (st:=s_measure_height) l29 c29 k29,PySem.W.mg_of X G a29,(fun_mk (st:=s_measure_height) l29 c29 k29).binds fun _ _ _ _ _ _=>lens fun _=>lens fun _=>len0 rfl⟩
 have A_mirror:At K mg "mirror" s_mirror ["plane", "point"]:=⟨f30,_,fun_mk (st:=s_mirror) l30 c30 k30,PySem.W.mg_of X G a30,(fun_mk (st:=s_mirror) l30 c30 k30).binds fun _ _ _ _ _ _=>lens fun _=>lens fun _=>len0 rfl⟩
 have A_lengthen_way:At K mg "lengthen_way" s_lengthen_way ["planes", "way"]:=⟨f31,_,fun_mk (st:=s_lengthen_way) l31 c31 k31,PySem.W.mg_of X G a31,(fun_mk (st:=s_lengthen_way) l31 c31 k31).binds fun _ _ _ _ _ _=>lens fun _=>lens fun _=>len0 rfl⟩
 have A_list_ways:At K mg "list_ways" s_list_ways ["planes", "start", "most"]:=⟨f32,_,fun_mk (st:=s_list_ways) l32 c32 k32,PySem.W.mg_of X G a32,(fun_mk (st:=s_list_ways) l32 c32 k32).binds fun _ _ _ _ _ _=>lens fun _=>lens fun _=>lens fun _=>len0 rfl⟩
 have A_list_seen_ends:At K mg "list_seen_ends" s_list_seen_ends ["planes", "walls", "end"]:=⟨f33,_,fun_mk (st:=s_list_seen_ends) l33 c33 k33,PySem.W.mg_of X G a33,(fun_mk (st:=s_list_seen_ends) l33 c33 k33).binds fun _ _ _ _ _ _=>lens fun _=>lens fun _=>lens fun _=>len0 rfl⟩
 have A_list_heights:At K mg "list_heights" s_list_heights ["planes", "walls", "starts", "ends"]:=⟨f34,_,fun_mk (st:=s_list_heights) l34 c34 k34,PySem.W.mg_of X G a34,(fun_mk (st:=s_list_heights) l34 c34 k34).binds fun _ _ _ _ _ _=>lens fun _=>lens fun _=>lens fun _=>lens fun _=>len0 rfl⟩
 have A_are_in_order:At K mg "are_in_order" s_are_in_order ["heights"]:=⟨f35,_,fun_mk (st:=s_are_in_order) l35 c35 k35,PySem.W.mg_of X G a35,(fun_mk (st:=s_are_in_order) l35 c35 k35).binds fun _ _ _ _ _ _=>lens fun _=>len0 rfl⟩
 have A_part_way:At K mg "part_way" s_part_way ["start", "end", "heights"]:=⟨f36,_,fun_mk (st:=s_part_way) l36 c36 k36,PySem.W.mg_of X G a36,(fun_mk (st:=s_part_way) l36 c36 k36).binds fun _ _ _ _ _ _=>lens fun _=>lens fun _=>lens fun _=>len0 rfl⟩
 have A_enlarge:At K mg "enlarge" s_enlarge ["corners", "whole"]:=⟨f37,_,fun_mk (st:=s_enlarge) l37 c37 k37,PySem.W.mg_of X G a37,(fun_mk (st:=s_enlarge) l37 c37 k37).binds fun _ _ _ _ _ _=>lens fun _=>lens fun _=>len0 rfl⟩
 have A_is_in_open_wall:At K mg "is_in_open_wall" s_is_in_open_wall ["room", "wall", "point"]:=⟨f38,_,fun_mk (st:=s_is_in_open_wall) l38 c38 k38,PySem.W.mg_of X G a38,(fun_mk (st:=s_is_in_open_wall) l38 c38 k38).binds fun _ _ _ _ _ _=>lens fun _=>lens fun _=>lens fun _=>len0 rfl⟩
 have A_cuts_leg:At K mg "cuts_leg" s_cuts_leg ["line", "leg"]:=⟨f39,_,fun_mk (st:=s_cuts_leg) l39 c39 k39,PySem.W.mg_of X G a39,(fun_mk (st:=s_cuts_leg) l39 c39 k39).binds fun _ _ _ _ _ _=>lens fun _=>lens fun _=>len0 rfl⟩
 have A_is_clear:At K mg "is_clear" s_is_clear ["corners", "start", "end"]:=⟨f40,_,fun_mk (st:=s_is_clear) l40 c40 k40,PySem.W.mg_of X G a40,(fun_mk (st:=s_is_clear) l40 c40 k40).binds fun _ _ _ _ _ _=>lens fun _=>lens fun _=>lens fun _=>len0 rfl⟩
 have A_is_path:At K mg "is_path" s_is_path ["room", "walls", "points"]:=⟨f41,_,fun_mk (st:=s_is_path) l41 c41 k41,PySem.W.mg_of X G a41,(fun_mk (st:=s_is_path) l41 c41 k41).binds fun _ _ _ _ _ _=>lens fun _=>lens fun _=>lens fun _=>len0 rfl⟩
 have A_measure_length2:At K mg "measure_length2" s_measure_length2 ["start", "end"]:=⟨f42,_,fun_mk (st:=s_measure_length2) l42 c42 k42,PySem.W.mg_of X G a42,(fun_mk (st:=s_measure_length2) l42 c42 k42).binds fun _ _ _ _ _ _=>lens fun _=>lens fun _=>len0 rfl⟩
 have A_find_paths:At K mg "find_paths" s_find_paths ["room", "start", "end", "most"]:=⟨f43,_,fun_mk (st:=s_find_paths) l43 c43 k43,PySem.W.mg_of X G a43,(fun_mk (st:=s_find_paths) l43 c43 k43).binds fun _ _ _ _ _ _=>lens fun _=>lens fun _=>lens fun _=>lens fun _=>len0 rfl⟩
 have A_refuse_room_or_book:At K mg "refuse_room_or_book" s_refuse_room_or_book ["room", "book"]:=⟨f44,_,fun_mk (st:=s_refuse_room_or_book) l44 c44 k44,PySem.W.mg_of X G a44,(fun_mk (st:=s_refuse_room_or_book) l44 c44 k44).binds fun _ _ _ _ _ _=>lens fun _=>lens fun _=>len0 rfl⟩
 have A_find_gain_by_walls:At K mg "find_gain_by_walls" s_find_gain_by_walls ["length2", "room", "book", "walls", "band"]:=⟨f45,_,fun_mk (st:=s_find_gain_by_walls) l45 c45 k45,PySem.W.mg_of X G a45,(fun_mk (st:=s_find_gain_by_walls) l45 c45 k45).binds fun _ _ _ _ _ _=>lens fun _=>lens fun _=>lens fun _=>lens fun _=>lens fun _=>len0 rfl⟩
 have A_refuse_way:At K mg "refuse_way" s_refuse_way ["room", "book", "is_in_range", "start", "end"]:=⟨f46,_,fun_mk (st:=s_refuse_way) l46 c46 k46,PySem.W.mg_of X G a46,(fun_mk (st:=s_refuse_way) l46 c46 k46).binds fun _ _ _ _ _ _=>lens fun _=>lens fun _=>lens fun _=>lens fun _=>lens fun _=>len0 rfl⟩
 have A_rank_path:At K mg "rank_path" s_rank_path ["path", "room", "book", "band"]:=⟨f47,_,fun_mk (st:=s_rank_path) l47 c47 k47,PySem.W.mg_of X G a47,(fun_mk (st:=s_rank_path) l47 c47 k47).binds fun _ _ _ _ _ _=>lens fun _=>lens fun _=>lens fun _=>lens fun _=>len0 rfl⟩
 have A_best:At K mg "best" s_best ["x", "y", "z", "u", "v", "t", "most", "band", "room", "book"]:=⟨f48,_,fun_mk (st:=s_best) l48 c48 k48,PySem.W.mg_of X G a48,(fun_mk (st:=s_best) l48 c48 k48).binds fun _ _ _ _ _ _=>lens fun _=>lens fun _=>lens fun _=>lens fun _=>lens fun _=>lens fun _=>lens fun _=>lens fun _=>lens fun _=>lens fun _=>len0 rfl⟩
 have e:=Value.ref.inj (Option.some.inj (hfa.symm.trans (PySem.W.mg_of X G a48)))
 subst e
 refine ⟨PySem.W.fnOf "best" "best" (defArgs s_best) (defBody s_best) (defScope s_best) .none kV48 dc48 pm48 an48 cd48 ct48,fun s=>lens fun _=>lens fun _=>lens fun _=>lens fun _=>lens fun _=>lens fun _=>lens fun _=>lens fun _=>lens fun _=>lens fun _=>len0 (.of_eq rfl),fun base _ _=>?_⟩
 exact (ok_best A_best T (ok_refuse_way A_refuse_way T (ok_refuse_room_or_book A_refuse_room_or_book T (ok_the_fault T A_list_corners A_has_right_length A_is_place A_is_stuff A_has_right_head A_is_corner A_find_ends A_find_run A_runs_in_a_direction A_goes_straight_on A_find_side A_ranges_meet A_reaches_across A_lines_meet A_meets_a_later_line A_breaks_rule A_measure_twice A_find_room_fault) (ok_find_book_fault A_find_book_fault T)) (ok_is_inside A_is_inside T (ok_list_corners A_list_corners T) (ok_is_within A_is_within T (ok_find_ends A_find_ends T) (lines_ok T A_find_side A_ranges_meet A_reaches_across A_lines_meet) (ok_is_crossed_ahead A_is_crossed_ahead T (ok_find_side A_find_side T)))))
  (find_ok T A_list_corners A_find_ends A_find_run A_find_side A_reaches_across A_find_side_plane A_list_planes A_measure_height A_mirror A_lengthen_way A_list_ways A_list_seen_ends A_list_heights A_are_in_order A_part_way A_enlarge A_is_in_open_wall A_cuts_leg A_is_clear A_is_path A_measure_length2 A_find_paths (ok_is_within A_is_within T (ok_find_ends A_find_ends T) (lines_ok T A_find_side A_ranges_meet A_reaches_across A_lines_meet) (ok_is_crossed_ahead A_is_crossed_ahead T (ok_find_side A_find_side T))) (lines_ok T A_find_side A_ranges_meet A_reaches_across A_lines_meet))
  (ok_rank_path A_rank_path T (ok_find_gain_by_walls A_find_gain_by_walls T (ok_find_stuff A_find_stuff T (ok_count_walls A_count_walls T)) (ok_find_gain A_find_gain T (ok_list_parts A_list_parts T (ok_find_root A_find_root T)) (ok_find_root A_find_root T))))).at_ (PySem.W.mg_of X G a48) l48
theorem dw_head {K:PySem.W.Frag} {H:Hp} {xs:List V} {d:WData} {ds:List WData} (h:DwAll K H xs (d :: ds)):∃ v vs,xs=v :: vs/\Dw K H v d/\DwAll K H vs ds:=by
 cases h with
 | cons h1 h2=>exact ⟨_,_,rfl,h1,h2⟩
theorem dw_nil {K:PySem.W.Frag} {H:Hp} {xs:List V} (h:DwAll K H xs []):xs=[]:=by
 cases h
 rfl
theorem dw_int {K:PySem.W.Frag} {H:Hp} {v:V} {n:Int} (h:Dw K H v (.int n)):v=.int n:=by
 cases h
 rfl
theorem dw_list {K:PySem.W.Frag} {H:Hp} {v:V} {l:List WData} (h:Dw K H v (.list l)):∃ a xs,v=.ref a/\SqL K H a xs/\DwAll K H xs l:=by
 cases h with
 | lst s a=>exact ⟨_,_,rfl,s,a⟩
theorem request (K:PySem.W.Frag) (H:Hp) (xs:List V) (a:Codec.denoteAll PySem.Challenge.rw_wallbands_s05_best.args) (_hO:OnlyF H) (hw:Codec.withinAll PySem.Challenge.rw_wallbands_s05_best.args a=true) (hq:Codec.app PySem.Challenge.rw_wallbands_s05_best.args PySem.Challenge.rw_wallbands_s05_best.asked a=true)
  (hx:DwAll K H xs (Codec.encAll PySem.Challenge.rw_wallbands_s05_best.args a)):spBest K xs H (fun v H'=>Dw K H' v (PySem.Challenge.rw_wallbands_s05_best.ret.enc (Codec.app PySem.Challenge.rw_wallbands_s05_best.args PySem.Challenge.rw_wallbands_s05_best.f a))) fun _ _ _=>False:=by
 obtain ⟨x,y,z,u,v,t,most,band,ns,bk,uu⟩:=a
 obtain ⟨w1,xs,rfl,d1,hx⟩:=dw_head hx
 obtain ⟨w2,xs,rfl,d2,hx⟩:=dw_head hx
 obtain ⟨w3,xs,rfl,d3,hx⟩:=dw_head hx
 obtain ⟨w4,xs,rfl,d4,hx⟩:=dw_head hx
 obtain ⟨w5,xs,rfl,d5,hx⟩:=dw_head hx
 obtain ⟨w6,xs,rfl,d6,hx⟩:=dw_head hx
 obtain ⟨w7,xs,rfl,d7,hx⟩:=dw_head hx
 obtain ⟨w8,xs,rfl,d8,hx⟩:=dw_head hx
 obtain ⟨w9,xs,rfl,d9,hx⟩:=dw_head hx
 obtain ⟨w10,xs,rfl,d10,hx⟩:=dw_head hx
 cases dw_nil hx
 cases dw_int d1
 cases dw_int d2
 cases dw_int d3
 cases dw_int d4
 cases dw_int d5
 cases dw_int d6
 cases dw_int d7
 cases dw_int d8
 obtain ⟨p2,l2,rfl,s2,a2⟩:=dw_list d9
 obtain ⟨p3,l3,rfl,s3,a3⟩:=dw_list d10
 have e2:=ints_dw ns _ a2
 have e3:=ints_dw bk _ a3
 subst e2 e3
 have iw:(Codec.inInt (-9223372036854775808) 9223372036854775807 x && (Codec.inInt (-9223372036854775808) 9223372036854775807 y && (Codec.inInt (-9223372036854775808) 9223372036854775807 z && (Codec.inInt (-9223372036854775808) 9223372036854775807 u && (Codec.inInt (-9223372036854775808) 9223372036854775807 v && (Codec.inInt (-9223372036854775808) 9223372036854775807 t && (Codec.inInt 0 18446744073709551615 most && (Codec.inInt 0 18446744073709551615 band && ((Codec.inLen 0 300 ns && ns.all (Codec.inInt (-9223372036854775808) 9223372036854775807)) && ((Codec.inLen 0 100 bk && bk.all (Codec.inInt 0 18446744073709551615)) && true))))))))))=true:=hw
 simp only [Bool.and_eq_true,Codec.inLen,Codec.inNat,Codec.inInt,List.all_eq_true,decide_eq_true_eq] at iw
 obtain ⟨zx,zy,zz,zu,zv,zt,zm,zlo,⟨zl,zn⟩,⟨_,zb⟩,_⟩:=iw
 have m0:((most.toNat:Nat):Int)=most:=by omega
 have b0:((band.toNat:Nat):Int)=band:=by omega
 have pw:most.toNat<=4->((ns.length - 3) / 3+2) ^ most.toNat<=20000:=fun h4=>by
  have q:BaNeutral.asked [[[5,x,y,z,u,v,t,most,band],ns,bk]]=true:=hq
  unfold BaNeutral.asked at q
  simp only [Bool.and_eq_true,decide_eq_true_eq,List.map_cons,List.map_nil,List.sum_cons,List.sum_nil] at q
  have q:=q.2.2.2
  have e:BaNeutral.looksAt [[5,x,y,z,u,v,t,most,band],ns,bk]=((ns.length - 3) / 3+2) ^ most.toNat:=by
   show BaNeutral.rowsOf ns most=_
   unfold BaNeutral.rowsOf
   rw [if_pos (by omega)]
  rw [e] at q
  omega
 refine ⟨(x,y,z),(u,v,t),most.toNat,band.toNat,_,_,ns,bk,by rw [m0,b0],s2,s3,by omega,fun x hx=>(by have:=zn x hx; omega),fun x hx=>(zb x hx).1,⟨by show x.natAbs<=_; omega,by show y.natAbs<=_; omega⟩,⟨by show u.natAbs<=_; omega,by show v.natAbs<=_; omega⟩,pw,fun l H' p hg _ hp=>?_⟩
 have e:=best_eq (fun x hx=>(zb x hx).1) hg
 rw [m0,b0] at e
 have e:PyYqbeca.best x y z u v t most band ns bk=l:=e
 rw [← e] at hp
 exact .lst (SqL.of hp) (dw_ints _)
end Gn
structure PySem.W.Fast where (tw7153566597263764672 tw1402897435520213244 tw13066259025519537865 tw14560154974095862249 tw9947241682320958881 tw16428731881601908092 tw7213954123743518510 tw8072269980036546270 tw16307175837640795669 tw6414851328182261974 tw4698951570210257608 tw13763290186100978507 tw5060190159053293218 tw8439146219279885397 tw13875106258127129443 tw11907435605265307514 tw10607453845220211256 tw15783909034824419700 tw15379643340345197176 tw7177229432575027913 tw2418045148776947164 tw9469983359987543477 tw14634311440302140408 tw10997256935450445562 tw724004482590609650 tw13544568237342017755 tw3199378236763361167 tw6671809383486216694 tw5358422407807336007 tw15316390214092590291 tw1536682490804182564 tw857642491772882132 tw7574719176195204401 tw10973199986752740059 tw16357049477619963775 tw14021151481073390651 tw17062117363019727991 tw4914927153117282026 tw4463709055246832583 tw17205945080079171306 tw16391499501848391251 tw11004005396590657872 tw3824632435444527641 tw4845409651679856396 tw3716935251262307109 tw9672042598210225100 tw12431282273073293324 tw2941654152333232471 tw12399507063494766948 tw14321924097662971281 tw9141862321734333577 tw5653556227781787258 tw15629329046118465152 tw8311649562890731353 tw13450252638781166814 tw6681296117925699224 tw14801379559728115706 tw13064143404750196311 tw5238326300655295917 tw4251477246934013459 tw14100151255139110436 tw16539237580157304418 tw2329352967710623961 tw17325674433225831166 tw4323618732127727712 tw1649939297244999118:Nat)
open PySem PySem.W PyProof.Rows
set_option maxRecDepth 100000 in
set_option maxHeartbeats 0 in
theorem PySem.Challenge.cw_wallbands_s05_best_holds : PySem.Challenge.rw_wallbands_s05_best.Holds := by
 w_on; k_headS; (case hw=>exact ⟨[.int 0,.int 0,.int 0,.int 0,.int 0,.int 0,.int 0,.int 0,.list [],.list []],by decide +kernel,by decide +kernel⟩)
 k_fillS
 refine L2.walk_specK (r:=PySem.Challenge.rw_wallbands_s05_best) (k:=9) (CX:=L2.CX0) (ps:=["x", "y", "z", "u", "v", "t", "most", "band", "room", "book"]) (sp:=Gn.spBest) (by decide +kernel) rfl rfl ⟨rfl,by decide,by decide⟩ (fun w h Y=>PySem.W.kIn_of Y) ?F ?S (fun _ _ _ _ z=>z)
 case F =>
  intro w mg fa h Y KX G hmg
  refine' Gn.all_mk KX G hmg ?nb_abs ?nb_all ?nb_any ?nb_enumerate ?nb_len ?nb_list ?nb_max ?nb_min ?nb_range ?nb_reversed ?nb_zip ?nc_AIR_PLACE ?nc_AIR_STEP ?nc_BANDS ?nc_BOOK_LENGTH ?nc_FEWEST_CORNERS ?nc_FINE ?nc_GREATEST_GAIN ?nc_GREATEST_PLACE ?nc_GREATEST_STUFF ?nc_MOST_CORNERS ?nc_MOST_TURNS ?nc_NOT_INSIDE ?nc_NO_BOOK ?nc_NO_PATH ?nc_NO_ROOM ?nc_OUT_OF_RANGE ?nc_WHOLE_PART ?a0 ?l0 ?c0 ?k0 ?a1 ?l1 ?c1 ?k1 ?a2 ?l2 ?c2 ?k2 ?a3 ?l3 ?c3 ?k3 ?a4 ?l4 ?c4 ?k4 ?a5 ?l5 ?c5 ?k5 ?a6 ?l6 ?c6 ?k6 ?a7 ?l7 ?c7 ?k7 ?a8 ?l8 ?c8 ?k8 ?a9 ?l9 ?c9 ?k9 ?a10 ?l10 ?c10 ?k10 ?a11 ?l11 ?c11 ?k11 ?a12 ?l12 ?c12 ?k12 ?a13 ?l13 ?c13 ?k13 ?a14 ?l14 ?c14 ?k14 ?a15 ?l15 ?c15 ?k15 ?a16 ?l16 ?c16 ?k16 ?a17 ?l17 ?c17 ?k17 ?a18 ?l18 ?c18 ?k18 ?a19 ?l19 ?c19 ?k19 ?a20 ?l20 ?c20 ?k20 ?a21 ?l21 ?c21 ?k21 ?a22 ?l22 ?c22 ?k22 ?a23 ?l23 ?c23 ?k23 ?a24 ?l24 ?c24 ?k24 ?a25 ?l25 ?c25 ?k25 ?a26 ?l26 ?c26 ?k26 ?a27 ?l27 ?c27 ?k27 ?a28 ?l28 ?c28 ?k28 ?a29 ?l29 ?c29 ?k29 ?a30 ?l30 ?c30 ?k30 ?a31 ?l31 ?c31 ?k31 ?a32 ?l32 ?c32 ?k32 ?a33 ?l33 ?c33 ?k33 ?a34 ?l34 ?c34 ?k34 ?a35 ?l35 ?c35 ?k35 ?a36 ?l36 ?c36 ?k36 ?a37 ?l37 ?c37 ?k37 ?a38 ?l38 ?c38 ?k38 ?a39 ?l39 ?c39 ?k39 ?a40 ?l40 ?c40 ?k40 ?a41 ?l41 ?c41 ?k41 ?a42 ?l42 ?c42 ?k42 ?a43 ?l43 ?c43 ?k43 ?a44 ?l44 ?c44 ?k44 ?a45 ?l45 ?c45 ?k45 ?a46 ?l46 ?c46 ?k46 ?a47 ?l47 ?c47 ?k47 ?a48 ?l48 ?c48 ?k48
  case nb_abs=>k_is
  case nb_all=>k_is
  case nb_any=>k_is
  case nb_enumerate=>k_is
  case nb_len=>k_is
  case nb_list=>k_is
  case nb_max=>k_is
  case nb_min=>k_is
  case nb_range=>k_is
  case nb_reversed=>k_is
  case nb_zip=>k_is
  case nc_AIR_PLACE=>k_is
  case nc_AIR_STEP=>k_is
  case nc_BANDS=>k_is
  case nc_BOOK_LENGTH=>k_is
  case nc_FEWEST_CORNERS=>k_is
  case nc_FINE=>k_is
  case nc_GREATEST_GAIN=>k_is
  case nc_GREATEST_PLACE=>k_is
  case nc_GREATEST_STUFF=>k_is
  case nc_MOST_CORNERS=>k_is
  case nc_MOST_TURNS=>k_is
  case nc_NOT_INSIDE=>k_is
  case nc_NO_BOOK=>k_is
  case nc_NO_PATH=>k_is
  case nc_NO_ROOM=>k_is
  case nc_OUT_OF_RANGE=>k_is
  case nc_WHOLE_PART=>k_is
  case a0=>k_is
  case l0=>k_is
  case c0=>k_is
  case k0=>k_is
  case a1=>k_is
  case l1=>k_is
  case c1=>k_is
  case k1=>k_is
  case a2=>k_is
  case l2=>k_is
  case c2=>k_is
  case k2=>k_is
  case a3=>k_is
  case l3=>k_is
  case c3=>k_is
  case k3=>k_is
  case a4=>k_is
  case l4=>k_is
  case c4=>k_is
  case k4=>k_is
  case a5=>k_is
  case l5=>k_is
  case c5=>k_is
  case k5=>k_is
  case a6=>k_is
  case l6=>k_is
  case c6=>k_is
  case k6=>k_is
  case a7=>k_is
  case l7=>k_is
  case c7=>k_is
  case k7=>k_is
  case a8=>k_is
  case l8=>k_is
  case c8=>k_is
  case k8=>k_is
  case a9=>k_is
  case l9=>k_is
  case c9=>k_is
  case k9=>k_is
  case a10=>k_is
  case l10=>k_is
  case c10=>k_is
  case k10=>k_is
  case a11=>k_is
  case l11=>k_is
  case c11=>k_is
  case k11=>k_is
  case a12=>k_is
  case l12=>k_is
  case c12=>k_is
  case k12=>k_is
  case a13=>k_is
  case l13=>k_is
  case c13=>k_is
  case k13=>k_is
  case a14=>k_is
  case l14=>k_is
  case c14=>k_is
  case k14=>k_is
  case a15=>k_is
  case l15=>k_is
  case c15=>k_is
  case k15=>k_is
  case a16=>k_is
  case l16=>k_is
  case c16=>k_is
  case k16=>k_is
  case a17=>k_is
  case l17=>k_is
  case c17=>k_is
  case k17=>k_is
  case a18=>k_is
  case l18=>k_is
  case c18=>k_is
  case k18=>k_is
  case a19=>k_is
  case l19=>k_is
  case c19=>k_is
  case k19=>k_is
  case a20=>k_is
  case l20=>k_is
  case c20=>k_is
  case k20=>k_is
  case a21=>k_is
  case l21=>k_is
  case c21=>k_is
  case k21=>k_is
  case a22=>k_is
  case l22=>k_is
  case c22=>k_is
  case k22=>k_is
  case a23=>k_is
  case l23=>k_is
  case c23=>k_is
  case k23=>k_is
  case a24=>k_is
  case l24=>k_is
  case c24=>k_is
  case k24=>k_is
  case a25=>k_is
  case l25=>k_is
  case c25=>k_is
  case k25=>k_is
  case a26=>k_is
  case l26=>k_is
  case c26=>k_is
  case k26=>k_is
  case a27=>k_is
  case l27=>k_is
  case c27=>k_is
  case k27=>k_is
  case a28=>k_is
  case l28=>k_is
  case c28=>k_is
  case k28=>k_is
  case a29=>k_is
  case l29=>k_is
  case c29=>k_is
  case k29=>k_is
  case a30=>k_is
  case l30=>k_is
  case c30=>k_is
  case k30=>k_is
  case a31=>k_is
  case l31=>k_is
  case c31=>k_is
  case k31=>k_is
  case a32=>k_is
  case l32=>k_is
  case c32=>k_is
  case k32=>k_is
  case a33=>k_is
  case l33=>k_is
  case c33=>k_is
  case k33=>k_is
  case a34=>k_is
  case l34=>k_is
  case c34=>k_is
  case k34=>k_is
  case a35=>k_is
  case l35=>k_is
  case c35=>k_is
  case k35=>k_is
  case a36=>k_is
  case l36=>k_is
  case c36=>k_is
  case k36=>k_is
  case a37=>k_is
  case l37=>k_is
  case c37=>k_is
  case k37=>k_is
  case a38=>k_is
  case l38=>k_is
  case c38=>k_is
  case k38=>k_is
  case a39=>k_is
  case l39=>k_is
  case c39=>k_is
  case k39=>k_is
  case a40=>k_is
  case l40=>k_is
  case c40=>k_is
  case k40=>k_is
  case a41=>k_is
  case l41=>k_is
  case c41=>k_is
  case k41=>k_is
  case a42=>k_is
  case l42=>k_is
  case c42=>k_is
  case k42=>k_is
  case a43=>k_is
  case l43=>k_is
  case c43=>k_is
  case k43=>k_is
  case a44=>k_is
  case l44=>k_is
  case c44=>k_is
  case k44=>k_is
  case a45=>k_is
  case l45=>k_is
  case c45=>k_is
  case k45=>k_is
  case a46=>k_is
  case l46=>k_is
  case c46=>k_is
  case k46=>k_is
  case a47=>k_is
  case l47=>k_is
  case c47=>k_is
  case k47=>k_is
  case a48=>k_is
  case l48=>k_is
  case c48=>k_is
  case k48=>k_is
 case S=>exact Gn.request
#print axioms PySem.Challenge.cw_wallbands_s05_best_holds
