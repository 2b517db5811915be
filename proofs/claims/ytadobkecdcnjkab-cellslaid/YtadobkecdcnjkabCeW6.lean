/- What Zero, Values, Recs do; '==' of records. -/
import Derived.Test.YtadobkecdcnjkabCeW5
import Derived.Laws.StructEq
namespace Go.Proofs.Ytadobkecdcnjkab.Ce
open Go.RowKit

def eqO (c d : O) : Bool := c.k == d.k && (c.c == d.c && (c.a == d.a && (c.v == d.v && c.w == d.w)))
def eqRc (c d : Rc) : Bool := eqO c.o d.o && (c.got == d.got && c.ok == d.ok)
theorem eqO_iff {c d : O} : eqO c d = true ↔ c = d := by
  constructor
  · intro h
    simp [eqO] at h
    exact O.ext' h.1 h.2.1 h.2.2.1 h.2.2.2.1 h.2.2.2.2
  · rintro rfl
    simp [eqO]
theorem eqRc_iff {c d : Rc} : eqRc c d = true ↔ c = d := by
  constructor
  · intro h
    simp only [eqRc, Bool.and_eq_true, eqO_iff, beq_iff_eq] at h
    exact Rc.ext' h.1 h.2.1 h.2.2
  · rintro rfl
    simp [eqRc, eqO]

theorem eq5 (m : Nat) (c d : O) (w : World) : (Op.equalIn (m + 2) 24 (.agg #[.int .i64 c.k, .int .i64 c.c, .int .i64 c.a, .int .i64 c.v, .int .i64 c.w]) (.agg #[.int .i64 d.k, .int .i64 d.c, .int .i64 d.a, .int .i64 d.v, .int .i64 d.w])).run Try.prog w = .ok (eqO c d) w := by
  have u3 := Try.underlying3
  have a3 := Try.isAgg3
  have z3 := Try.sizeOf3
  have u2 := Try.underlying2
  have a2 := Try.isAgg2
  have z2 := Try.sizeOf2
  have hS : Try.prog.underlying 24 = some (.struct (Try.prog.fieldsOf 24)) := by kernel_rfl
  rw [show m + 2 = (m + 1) + 1 from rfl, run_equalIn_agg w (m + 1) 24 _ _ hS (by kernel_rfl)]
  simp only [Program.fieldsOf, Try.underlying24]
  go_simp
  unfold eqO
  by_cases h1 : c.k = d.k <;> by_cases h2 : c.c = d.c <;> by_cases h3 : c.a = d.a <;> by_cases h4 : c.v = d.v <;> by_cases h5 : c.w = d.w <;> simp [h1, h2, h3, h4, h5]
theorem eq7 (c d : Rc) (w : World) : (Op.equalIn 10000 27 (.agg #[.int .i64 c.o.k, .int .i64 c.o.c, .int .i64 c.o.a, .int .i64 c.o.v, .int .i64 c.o.w, .int .i64 c.got, .bool c.ok]) (.agg #[.int .i64 d.o.k, .int .i64 d.o.c, .int .i64 d.o.a, .int .i64 d.o.v, .int .i64 d.o.w, .int .i64 d.got, .bool d.ok])).run Try.prog w = .ok (eqRc c d) w := by
  have u3 := Try.underlying3
  have u2 := Try.underlying2
  have a2 := Try.isAgg2
  have z2 := Try.sizeOf2
  have u4 := Try.underlying4
  have a4 := Try.isAgg4
  have z4 := Try.sizeOf4
  have hS : Try.prog.underlying 27 = some (.struct (Try.prog.fieldsOf 27)) := by kernel_rfl
  rw [show (10000 : Nat) = 9999 + 1 from rfl, run_equalIn_agg w 9999 27 _ _ hS (by kernel_rfl)]
  simp only [Program.fieldsOf, Try.underlying27]
  have h5 := eq5 9997 c.o d.o
  go_simp
  unfold eqRc
  cases h : eqO c.o d.o <;> by_cases h1 : c.got = d.got <;> by_cases h2 : c.ok = d.ok <;> simp [h1, h2]

theorem one_row (x : Int) (w : World) : Row (w.alloc (.cells #[.int .i64 x] 2)) (some ⟨w.heap.size, 0, none⟩) (vals [x]) := by
  refine ⟨fun j u hu => ⟨_, rfl, ?_⟩⟩
  have hj : j = 0 := by have := (List.getElem?_eq_some_iff.1 hu).1; simp at this; omega
  subst hj
  simp at hu
  subst hu
  simp [Addr.add]
theorem drewN_add (w : World) (a b : Nat) : (w.drewN a).drewN b = w.drewN (a + b) := by simp [World.drewN, Nat.add_assoc]
/-- Whether two lists are the same. -/
def eqL {α : Type} [DecidableEq α] (a b : List α) : Bool := decide (a = b)
theorem eqL_iff {α : Type} [DecidableEq α] {a b : List α} : eqL a b = true ↔ a = b := by simp [eqL]
theorem eqL_not {α : Type} [DecidableEq α] {a b : List α} (h : ¬ a = b) : eqL a b = false := by simp [eqL, h]
theorem take_full {α : Type} {a b : List α} (h : a.length = b.length) (e : a.take a.length = b.take a.length) : a = b := by
  rwa [List.take_length, h, List.take_length] at e

set_option maxRecDepth 100000 in
set_option maxHeartbeats 1000000 in
theorem values_len (ao bo : Option Addr) (n m cap cap' : Nat) (w : World) (h : ((n : Int) != (m : Int)) = true) :
    Calls Try.prog 7 #[.slice ao n cap, .slice bo m cap'] w fun e w' => e = .returned (.bool false) ∧ w' = w := by
  go_enter Try.func7, Try.ntmps7
  go_wp2
  go_ret
  exact ⟨rfl, rfl⟩

set_option maxRecDepth 100000 in
set_option maxHeartbeats 1000000 in
theorem values_same (ao bo : Option Addr) (n cap cap' : Nat) (la lb : List Int) (w : World) (hs : n ≤ 5000) (HA : Hid (n = la.length)) (HB : Hid (n = lb.length)) (RA : Hid (Row w ao (vals la))) (RB : Hid (Row w bo (vals lb))) :
    Calls Try.prog 7 #[.slice ao n cap, .slice bo n cap'] w fun e w' => e = .returned (.bool (eqL la lb)) ∧ ∃ nd, w' = w.drewN nd := by
  go_enter Try.func7, Try.ntmps7
  go_wp2
  go_loopw [5] (fun i wr => ∃ k : Nat, k ≤ n ∧ i = .int .i64 k ∧ Hid (la.take k = lb.take k) ∧ ∃ nd, wr = w.drewN nd) (fun i _ => n - (intOf i).toNat)
  case atStart => exact ⟨0, Nat.zero_le _, rfl, by simp [Hid], 0, rfl⟩
  case round =>
    obtain ⟨k, hk, rfl, HT, nd, rfl⟩ := hrel
    by_cases hlt : k < n
    · have i1 : (0 : Int) ≤ (k : Int) := by omega
      have i2 : (k : Int) < (n : Int) := by omega
      obtain ⟨a, rfl, ca⟩ := RA.out.cell k _ (vals_at la k (by have := HA.out; omega))
      obtain ⟨b, rfl, cb⟩ := RB.out.cell k _ (vals_at lb k (by have := HB.out; omega))
      obtain ⟨x, hx⟩ : ∃ x, la.getD k 0 = x := ⟨_, rfl⟩
      obtain ⟨y, hy⟩ : ∃ y, lb.getD k 0 = y := ⟨_, rfl⟩
      rw [hx] at ca
      rw [hy] at cb
      have HX := hid hx
      have HY := hid hy
      clear hx hy
      by_cases hxy : x = y
      · have hn : (x != y) = false := by simp [hxy]
        have HXY := hid hxy
        clear hxy
        go_wp2
        go_quiet (fail)
        go_wp2
        go_roundw
        case rel => exact ⟨k + 1, by omega, by go_num, by rw [take_snoc la 0 k (by have := HA.out; omega), take_snoc lb 0 k (by have := HB.out; omega), HT.out, HX.out, HY.out, HXY.out]; exact rfl, _, rfl⟩
        case measure => simp [intOf]; omega
      · have hn : (x != y) = true := by simp [hxy]
        have HXY := hid hxy
        clear hxy
        go_wp2
        go_quiet (fail)
        go_wp2
        go_ret
        exact ⟨ret_bool (eqL_not (fun e => HXY.out (by rw [← HX.out, ← HY.out, e]))).symm, _, drewN_add _ _ _⟩
    · obtain rfl : k = n := by omega
      go_wp2
      go_ret
      exact ⟨ret_bool (eqL_iff.2 (take_full (HA.out.symm.trans HB.out) (by rw [← HA.out]; exact HT.out))).symm, _, rfl⟩

/-- Values: WHETHER TWO LISTS ARE THE SAME. -/
theorem values_any (ao bo : Option Addr) (n m cap cap' : Nat) (la lb : List Int) (w : World) (hs : n ≤ 5000) (hA : n = la.length) (hB : m = lb.length) (rA : Row w ao (vals la)) (rB : Row w bo (vals lb)) :
    Calls Try.prog 7 #[.slice ao n cap, .slice bo m cap'] w fun e w' => e = .returned (.bool (eqL la lb)) ∧ ∃ nd, w' = w.drewN nd := by
  by_cases h : n = m
  · subst h
    exact values_same ao bo n cap cap' la lb w hs hA hB rA rB
  · rw [eqL_not (a := la) (b := lb) (fun e => h (by rw [hA, hB, e]))]
    refine (values_len ao bo n m cap cap' w (by simp; omega)).mono ?_
    rintro e w' ⟨rfl, rfl⟩
    exact ⟨rfl, 0, rfl⟩
theorem drewN_below (w : World) (n : Nat) : Below w.heap.size w (w.drewN n) := ⟨rfl, rfl, rfl, Nat.le_refl _, fun _ _ => rfl⟩
theorem values_true (ao bo : Option Addr) (n cap cap' : Nat) (l : List Int) (w : World) (hs : n ≤ 5000) (hA : n = l.length) (rA : Row w ao (vals l)) (rB : Row w bo (vals l)) :
    Calls Try.prog 7 #[.slice ao n cap, .slice bo n cap'] w fun e w' => e = .returned (.bool true) ∧ ∃ nd, w' = w.drewN nd := by
  have h := values_any ao bo n n cap cap' l l w hs hA hA rA rB
  rwa [eqL_iff.2 rfl] at h
end Go.Proofs.Ytadobkecdcnjkab.Ce
