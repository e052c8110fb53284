import PyProof.Rows.All
import KE.OsGo
import KE.OsEnd
import PySem.Challenge.RW_wallbands_s01_judge
open PySem PySem.W
set_option Elab.async false
namespace My
theorem nonneg {ns : List Int} (h : ∀ x ∈ ns, Int.ofNat 0 ≤ x ∧ x ≤ Int.ofNat 18446744073709551615) : BaNeutral.fromZero ns = true := by
  unfold BaNeutral.fromZero
  rw [List.all_eq_true]
  intro x hx
  have := (h x hx).1
  exact decide_eq_true (by simpa using this)
theorem judge_eq {ns : List Int} (h : ∀ x ∈ ns, Int.ofNat 0 ≤ x ∧ x ≤ Int.ofNat 18446744073709551615) :
    PyYqbeca.judge ns = BaNeutral.told (Ba.answer (.judge (BaNeutral.nats ns))) := by
  have e : BaNeutral.callOf [[1], ns] = some (.judge (BaNeutral.nats ns)) := by
    show (if BaNeutral.fromZero ns = true then _ else _) = _
    rw [if_pos (nonneg h)]
  show (BaNeutral.step BaNeutral.start [[1], ns]).2 = _
  unfold BaNeutral.step
  rw [e]
  rfl
theorem nats_len (ns : List Int) : (BaNeutral.nats ns).length = ns.length := List.length_map ..
theorem way_len {ns : List Int} (h : ∀ x ∈ ns, Int.ofNat 0 ≤ x ∧ x ≤ Int.ofNat 18446744073709551615) (hl : (ns.length : Int) ≠ 36) :
    [(-6 : Int), (ns.length : Int)] = PyYqbeca.judge ns := by
  rw [judge_eq h]
  have e : Eh.bookOf (BaNeutral.nats ns) = .error ns.length := by
    unfold Eh.bookOf
    rw [if_pos (by rw [nats_len]; show ns.length ≠ 36; omega), nats_len]
  show _ = BaNeutral.told (match Eh.bookOf (BaNeutral.nats ns) with | .error i => .book i | .ok _ => .nums [])
  rw [e]
  rfl
theorem find_nats : ∀ (ns : List Int) (k : Nat), ((ns.zipIdx k).find? (fun p => decide (32768 < p.1))).map (fun p => p.2) = ((BaNeutral.nats ns).findIdx? (fun x => decide (Eh.WHOLE < x))).map (fun i => i + k)
  | [], _ => rfl
  | x :: r, k => by
    have e : decide ((32768 : Int) < x) = decide (Eh.WHOLE < x.toNat) := by
      unfold Eh.WHOLE
      by_cases c : (32768 : Int) < x
      · rw [decide_eq_true c, decide_eq_true (by omega)]
      · rw [decide_eq_false c, decide_eq_false (by omega)]
    have ih := find_nats r (k + 1)
    show Option.map _ (List.find? _ ((x, k) :: r.zipIdx (k + 1))) = Option.map _ (List.findIdx? _ (x.toNat :: BaNeutral.nats r))
    rw [List.find?_cons, List.findIdx?_cons]
    show Option.map _ (match decide ((32768 : Int) < x) with | true => _ | false => _) = _
    rw [e]
    cases c : decide (Eh.WHOLE < x.toNat)
    · show Option.map _ (List.find? _ (r.zipIdx (k + 1))) = Option.map _ (Option.map _ (List.findIdx? _ (BaNeutral.nats r)))
      rw [ih, Option.map_map]
      congr 1
      funext i
      show i + (k + 1) = (i + 1) + k
      omega
    · show some k = some (0 + k)
      rw [Nat.zero_add]
theorem way_great {ns : List Int} {a : Int} {i : Nat} (h : ∀ x ∈ ns, Int.ofNat 0 ≤ x ∧ x ≤ Int.ofNat 18446744073709551615) (hl : (ns.length : Int) = 36)
    (hf : List.find? (fun p => decide (32768 < p.fst)) ns.zipIdx = some (a, i)) :
    [(-6 : Int), (i : Int)] = PyYqbeca.judge ns := by
  rw [judge_eq h]
  have f := find_nats ns 0
  rw [hf] at f
  have g : (BaNeutral.nats ns).findIdx? (fun x => decide (Eh.WHOLE < x)) = some i := by
    cases c : (BaNeutral.nats ns).findIdx? (fun x => decide (Eh.WHOLE < x)) with
    | none => rw [c] at f; cases f
    | some j =>
      rw [c] at f
      have : i = j + 0 := Option.some.inj f
      rw [this, Nat.add_zero]
  have e : Eh.bookOf (BaNeutral.nats ns) = .error i := by
    unfold Eh.bookOf
    rw [if_neg (by rw [nats_len]; show ¬ ns.length ≠ 36; omega), g]
  show _ = BaNeutral.told (match Eh.bookOf (BaNeutral.nats ns) with | .error i => .book i | .ok _ => .nums [])
  rw [e]
  rfl
theorem way_fine {ns : List Int} (h : ∀ x ∈ ns, Int.ofNat 0 ≤ x ∧ x ≤ Int.ofNat 18446744073709551615) (hl : (ns.length : Int) = 36)
    (hf : ∀ p : Int × Nat, p ∈ ns.zipIdx → decide (32768 < p.fst) = false) :
    [(0 : Int)] = PyYqbeca.judge ns := by
  rw [judge_eq h]
  have f := find_nats ns 0
  have n : List.find? (fun p : Int × Nat => decide (32768 < p.fst)) ns.zipIdx = none := by
    rw [List.find?_eq_none]
    intro p hp
    rw [hf p hp]
    exact Bool.false_ne_true
  rw [n] at f
  have g : (BaNeutral.nats ns).findIdx? (fun x => decide (Eh.WHOLE < x)) = none := by
    cases c : (BaNeutral.nats ns).findIdx? (fun x => decide (Eh.WHOLE < x)) with
    | none => rfl
    | some j => rw [c] at f; cases f
  show _ = BaNeutral.told (match Eh.bookOf (BaNeutral.nats ns) with | .error i => .book i | .ok _ => .nums [])
  unfold Eh.bookOf
  rw [if_neg (by rw [nats_len]; show ¬ ns.length ≠ 36; omega), g]
  rfl
end My
set_option maxRecDepth 100000 in
set_option maxHeartbeats 8000000 in
theorem PySem.Challenge.cw_wallbands_s01_judge_holds : PySem.Challenge.rw_wallbands_s01_judge.Holds := by
  open_ks
  all_goals os_ints
  · refine os_same_list ?_
    exact congrArg (List.map PyData.int) (My.way_len (by assumption) (by assumption))
  · refine os_same_list ?_
    exact congrArg (List.map PyData.int) (My.way_great (by assumption) (by assumption) (by assumption))
  · refine os_same_list ?_
    exact congrArg (List.map PyData.int) (My.way_fine (by assumption) (by assumption) (by assumption))
#print axioms PySem.Challenge.cw_wallbands_s01_judge_holds
