/- What step, slices.Clone, change, Apply, Zero do. -/
import Derived.Test.YtaihabkacjbfjaaCeMem
import Derived.Lib.SliceRun
namespace Go.Proofs.Ytaihabkacjbfjaa.Ce
open Go.RowKit

theorem infoI : (Try.prog.info? 2).map (fun i => (i.zero, i.size, i.bytes)) = some (some (.int .i64 0), 1, 8) := by kernel_rfl
theorem infoR : (Try.prog.info? 70).map (fun i => (i.zero, i.size, i.bytes)) = some (some (.agg #[.int .i64 0, .int .i64 0, .int .i64 0, .int .i64 0, .int .i64 0, .int .i64 0, .bool false]), 7, 56) := by kernel_rfl
theorem info_of {P : Program} {e : TypeId} {z : Value} {size bytes : Nat} (h : (P.info? e).map (fun i => (i.zero, i.size, i.bytes)) = some (some z, size, bytes)) :
    ∃ i, P.info? e = some i ∧ i.zero = some z ∧ i.size = size ∧ i.bytes = bytes := by
  cases hi : P.info? e with
  | none => simp [hi] at h
  | some i => simp [hi] at h; exact ⟨i, rfl, h.1, h.2.1, h.2.2⟩

set_option maxHeartbeats 1000000 in
theorem step_any (got : Int) (o : O) (w : World) (hk : Hid (1 ≤ o.k ∧ o.k ≤ 5)) :
    Calls Try.prog 45 #[.int .i64 got, (.agg #[.int .i64 o.k, .int .i64 o.c, .int .i64 o.a, .int .i64 o.v, .int .i64 o.w])] w fun e w' => e = .returned (.tuple #[.int .i64 (stV got o), .bool (stB got o)]) ∧ Below w.heap.size w w' := by
  obtain ⟨v0, hv⟩ : ∃ v0, stV got o = v0 := ⟨_, rfl⟩
  obtain ⟨b0, hb⟩ : ∃ b0, stB got o = b0 := ⟨_, rfl⟩
  have HV : Hid (stV got o = v0) := hv
  have HB : Hid (stB got o = b0) := hb
  rw [hv, hb]
  clear hv hb
  rcases kinds o.k with h | h | h | h | h | ⟨h1, h2, h3, h4, h5⟩
  · have HK : Hid (o.k = 1) := h
    go_enter Try.func45, Try.ntmps45
    go_wp2
    go_quiet (fail)
    go_wp2
    go_ret2
    refine ⟨?_, q_drewN (q_alloc (Below.refl _ _) _) _⟩
    rw [← HV.out, ← HB.out]; simp [stV, stB, HK.out]
  · have HK : Hid (o.k = 2) := h
    go_enter Try.func45, Try.ntmps45
    go_wp2
    go_quiet (fail)
    go_wp2
    go_ret2
    refine ⟨?_, q_drewN (q_alloc (Below.refl _ _) _) _⟩
    rw [← HV.out, ← HB.out]; simp [stV, stB, HK.out]
  · have HK : Hid (o.k = 3) := h
    by_cases hg : got = o.a
    · have HG : Hid (got = o.a) := hg
      have hn : (got != o.a) = false := by simp [hg]
      clear hg
      go_enter Try.func45, Try.ntmps45
      go_wp2
      go_quiet (fail)
      go_wp2
      go_ret2
      refine ⟨?_, q_drewN (q_alloc (Below.refl _ _) _) _⟩
      rw [← HV.out, ← HB.out]; simp [stV, stB, HK.out, HG.out]
    · have HG : Hid (¬ got = o.a) := hg
      have hn : (got != o.a) = true := by simp [hg]
      clear hg
      go_enter Try.func45, Try.ntmps45
      go_wp2
      go_quiet (fail)
      go_wp2
      go_ret2
      refine ⟨?_, q_drewN (q_alloc (Below.refl _ _) _) _⟩
      rw [← HV.out, ← HB.out]; simp [stV, stB, HK.out, HG.out]
  · have HK : Hid (o.k = 4) := h
    by_cases hg : got = 0
    · have HG : Hid (got = 0) := hg
      have hn : (got != 0) = false := by simp [hg]
      clear hg
      go_enter Try.func45, Try.ntmps45
      go_wp2
      go_quiet (fail)
      go_wp2
      go_quiet (fail)
      go_wp2
      go_ret2
      refine ⟨?_, q_drewN (q_alloc (Below.refl _ _) _) _⟩
      rw [← HV.out, ← HB.out]; simp [stV, stB, HK.out, HG.out]
    · have HG : Hid (¬ got = 0) := hg
      have hn : (got != 0) = true := by simp [hg]
      clear hg
      go_enter Try.func45, Try.ntmps45
      go_wp2
      go_quiet (fail)
      go_wp2
      go_quiet (fail)
      go_wp2
      go_ret2
      refine ⟨?_, q_drewN (q_alloc (Below.refl _ _) _) _⟩
      rw [← HV.out, ← HB.out]; simp [stV, stB, HK.out, HG.out]
  · have HK : Hid (o.k = 5) := h
    by_cases hg : got = o.w
    · have HG : Hid (got = o.w) := hg
      have hn : (got != o.w) = false := by simp [hg]
      clear hg
      go_enter Try.func45, Try.ntmps45
      go_wp2
      go_quiet (fail)
      go_wp2
      go_ret2
      refine ⟨?_, q_drewN (q_alloc (Below.refl _ _) _) _⟩
      rw [← HV.out, ← HB.out]; simp [stV, stB, HK.out, HG.out]
    · have HG : Hid (¬ got = o.w) := hg
      have hn : (got != o.w) = true := by simp [hg]
      clear hg
      go_enter Try.func45, Try.ntmps45
      go_wp2
      go_quiet (fail)
      go_wp2
      go_ret2
      refine ⟨?_, q_drewN (q_alloc (Below.refl _ _) _) _⟩
      rw [← HV.out, ← HB.out]; simp [stV, stB, HK.out, HG.out]
  · simp only [beq_eq_false_iff_ne] at h1 h2 h3 h4 h5
    have := hk.out
    omega

/-- append, AS A LAW FOR THE WALK: what is owned, and behind it what lies in the other slice. -/
theorem wpList_append_row (w : World) {ops : Array Oper} {rest : List Oper} {o : Oper} {a : Act} {Q : Exit → Act → World → Prop} (hgd : o.guard = none) (s x : Operand) (T E : TypeId) (z : Value) (size bytes : Nat)
    (ho : o.op = .call { callee := .builtin .append, args := #[s, x], argTypes := #[T, T] }) (ht : Try.prog.underlying T = some (.slice E))
    (hi0 : (Try.prog.info? E).map (fun i => (i.zero, i.size, i.bytes)) = some (some z, size, bytes)) (hzs : z.cells.size = size) (hsz : 0 < size) (hby : bytes ≤ 1000)
    (base : Nat) (v : Value) (n : Nat) (xs : List Value) (hs : a.eval s = v) (hown : w.ownsRow base E size v n xs)
    (ao : Option Addr) (m c : Nat) (ys : List Value) (hx : a.eval x = .slice ao m c) (hm : ys.length = m * size) (hc : ao = none → c = 0) (hy : Row w ao ys) (h1 : ∀ u ∈ ys, u.oneCell' = true)
    (h63 : n + m ≤ 10000) (hbase : base ≤ w.heap.size)
    (h : ∀ ao' cap' w', w'.ownsRow base E size (.slice ao' (n + m) cap') (n + m) (xs ++ ys) → w.grownBy w' v.ownBlock → wpList Try.prog ops Q rest (a.put o.dst (.slice ao' (n + m) cap')) w') : wpList Try.prog ops Q (o :: rest) a w := by
  obtain ⟨i0, hi, hz0, hz1, hz2⟩ := info_of hi0
  have sl : ∀ {w' : World} {v' : Value} {k : Nat} {cs : List Value}, w'.ownsRow base E size v' k cs → ∃ ao' cap', v' = .slice ao' k cap' := by
    intro w' v' k cs h
    rcases h.2 with ⟨rfl, rfl⟩ | ⟨g, cap, cur, rfl, _⟩
    · exact ⟨_, _, rfl⟩
    · exact ⟨_, _, rfl⟩
  cases ao with
  | none =>
    have hys : ys = [] := by
      cases ys with
      | nil => rfl
      | cons y r => obtain ⟨_, e, _⟩ := hy.cell 0 y rfl; cases e
    subst hys
    have hm0 : m = 0 := by
      cases m with
      | zero => rfl
      | succ m =>
        have := Nat.le_mul_of_pos_left size (Nat.succ_pos m)
        rw [List.length_nil] at hm
        rw [Nat.succ_eq_add_one, ← hm] at this
        omega
    subst hm0
    rw [hc rfl] at hx
    obtain ⟨ao', cap', rfl⟩ := sl hown
    refine wpList_append_own_none hgd s x T ho base E i0 size ht hi _ n xs hs hown hx ?_
    exact h ao' cap' w (by simpa using hown) (World.grownBy.refl _ _)
  | some ad =>
    refine wpList_append_own w hgd s x T ho base E i0 z size bytes ht hi hz0 hz1 hz2 hzs hsz v n xs hs hown ad m c ys hx hm ?_ h1 (by unfold maxLen; omega) (Nat.le_trans (Nat.mul_le_mul h63 hby) (by decide)) hbase ?_
    · intro j u hu
      obtain ⟨a', e, hcell⟩ := hy.cell j u hu
      cases e
      exact hcell
    · intro v' w' h1 h2 _
      obtain ⟨ao', cap', rfl⟩ := sl h1
      exact h ao' cap' w' h1 h2

theorem own0 (w : World) (E : TypeId) (size : Nat) : (w.alloc (.cells #[] E)).ownsRow w.heap.size E size (.slice (some ⟨w.heap.size, 0, none⟩) 0 0) 0 [] :=
  World.ownsRow_made w #[] 0 (Nat.le_refl _) (by decide) (by simp)
theorem app_below {w w1 : World} {E : TypeId} {n c : Nat} (h : (w.alloc (.cells #[] E)).grownBy w1 (Value.ownBlock (.slice (some ⟨w.heap.size, 0, none⟩) n c))) : Below w.heap.size w w1 :=
  ((Below.refl _ w).alloc (Nat.le_refl _) _).grown h (by simp) (fun k e => by cases e; exact Nat.le_refl _)
theorem alloc_below (w : World) (o : Obj) : Below w.heap.size w (w.alloc o) := (Below.refl _ w).alloc (Nat.le_refl _) _

theorem eqI (w : World) (a : Option Addr) (n c n' c' : Nat) : (binOp .eql 53 (.slice a n c) (.slice none n' c')).run Try.prog w = .ok (.bool a.isNone) w := Lib.run_eql_slice_nil w _ _ a n c n' c' Try.underlying53
theorem eqR (w : World) (a : Option Addr) (n c n' c' : Nat) : (binOp .eql 61 (.slice a n c) (.slice none n' c')).run Try.prog w = .ok (.bool a.isNone) w := Lib.run_eql_slice_nil w _ _ a n c n' c' Try.underlying61
set_option maxHeartbeats 400000 in
theorem cloneI_nil (w : World) :
    Calls Try.prog 36 #[.slice none 0 0] w fun e w' => e = .returned (.slice none 0 0) ∧ w' = w := by
  have q := eqI
  go_enter Try.func36, Try.ntmps36
  go_wp2
  go_ret
  exact ⟨rfl, rfl⟩
set_option maxHeartbeats 400000 in
theorem cloneI_some (a : Addr) (n cap : Nat) (cs : List Value) (w : World) (hn : Hid (cs.length = n * 1)) (hs : Hid (n ≤ 5000)) (hr : Hid (Row w (some a) cs)) (h1 : Hid (∀ u ∈ cs, u.oneCell' = true)) :
    Calls Try.prog 36 #[.slice (some a) n cap] w fun e w' => ∃ ao' cap', e = .returned (.slice ao' n cap') ∧ w'.ownsRow w.heap.size 2 1 (.slice ao' n cap') n cs ∧ Below w.heap.size w w' := by
  have q := eqI
  go_enter Try.func36, Try.ntmps36
  go_wp2_with (at_builtin; refine wpList_append_row _ rfl (.tmp 5) (.tmp 6) 53 2 _ 1 8 rfl Try.underlying53 infoI rfl (by decide) (by decide) w.heap.size _ 0 [] rfl (own0 w 2 1) (some a) n cap cs rfl hn.out (fun h => by cases h) (hr.out.below (alloc_below w _)) h1.out (by have := hs.out; omega) (alloc_below w _).size ?_; intro ao1 cap1 w1 hown1 hgrow1; have b1 := app_below hgrow1; rw [Nat.zero_add, List.nil_append] at hown1; rw [Nat.zero_add]; have HO : Hid (w1.ownsRow w.heap.size 2 1 (.slice ao1 n cap1) n cs) := hown1; clear hown1 hgrow1)
  go_ret
  exact ⟨ao1, cap1, rfl, HO.out, b1⟩
theorem row_none {w : World} {cs : List Value} (h : Row w none cs) : cs = [] := by
  cases cs with
  | nil => rfl
  | cons y r => obtain ⟨_, e, _⟩ := h.cell 0 y rfl; cases e
/-- slices.Clone OF NUMBERS, OF RECORDS: WHAT LIES THERE, IN A ROW OF ITS OWN. -/
theorem cloneI_any (ao : Option Addr) (n cap : Nat) (l : List Int) (w : World) (hn : n = l.length) (hs : n ≤ 5000) (hc : ao = none → cap = 0) (hr : Row w ao (vals l)) :
    Calls Try.prog 36 #[.slice ao n cap] w fun e w' => ∃ ao' cap', e = .returned (.slice ao' n cap') ∧ w'.ownsRow w.heap.size 2 1 (.slice ao' n cap') n (vals l) ∧ Below w.heap.size w w' := by
  cases ao with
  | none =>
    have h0 := row_none hr
    rw [hc rfl]
    have hn0 : n = 0 := by rw [hn]; simpa using h0
    subst hn0
    refine (cloneI_nil w).mono ?_
    rintro e w' ⟨rfl, rfl⟩
    exact ⟨none, 0, rfl, by rw [h0]; exact World.ownsRow_nil _ _ _ _, Below.refl _ _⟩
  | some a => exact cloneI_some a n cap (vals l) w (by rw [len_vals, hn]; simp [Hid]) hs hr (vals_one l)
end Go.Proofs.Ytaihabkacjbfjaa.Ce
