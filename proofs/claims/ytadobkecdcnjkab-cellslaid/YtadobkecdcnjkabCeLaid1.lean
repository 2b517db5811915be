/- What Lay and At do. -/
import Derived.Test.YtadobkecdcnjkabCeRun
import Derived.Laws.CopyOwn
namespace Go.Proofs.Ytadobkecdcnjkab.Ce
open Go.RowKit

set_option maxHeartbeats 400000 in
theorem lay_nil (ao : Option Addr) (n cap : Nat) (w : World) : Calls Try.prog 11 #[.pointer none, .slice ao n cap] w fun e w' => e = .returned (.int .i64 7) ∧ w' = w := by
  go_enter Try.func11, Try.ntmps11
  go_wp2
  go_ret
  exact ⟨rfl, rfl⟩
set_option maxHeartbeats 400000 in
theorem at_nil (x : Int) (w : World) : Calls Try.prog 12 #[.pointer none, .int .i64 x] w fun e w' => e = .returned (.int .i64 0) ∧ w' = w := by
  go_enter Try.func12, Try.ntmps12
  go_wp2
  go_ret
  exact ⟨rfl, rfl⟩

theorem kept_row (S : Nat → Prop) (w : World) (g : Nat) (cs : Array Value) (h : S g) : Kept S w (w.setRow g cs) :=
  ⟨rfl, rfl, rfl, by simp [World.setRow], fun k _ hn => setRow_other w g k cs (fun e => hn (e ▸ h))⟩

section
variable {w : World} {B p g vcap : Nat} {tao : Option Addr} {tcap : Nat} {s : S}
set_option maxHeartbeats 400000 in
theorem lay_no (h : Hid (Cel w B p g vcap tao tcap s)) (ao : Option Addr) (n m cap : Nat) (HN : Hid (s.vs.length = m)) (hne : ((n : Int) != (m : Int)) = true) :
    Calls Try.prog 11 #[.pointer (some ⟨p, 0, none⟩), .slice ao n cap] w fun e w' => e = .returned (.int .i64 2) ∧ w' = w := by
  have hc := h.out.cells
  rw [HN.out] at hc
  obtain ⟨c0, c1, c2, cf⟩ := hc
  go_enter Try.func11, Try.ntmps11
  go_wp2
  go_ret
  exact ⟨rfl, rfl⟩
theorem hszI : (Try.prog.info? 2).map (·.size) = some 1 := by kernel_rfl
set_option maxHeartbeats 400000 in
theorem lay_zero (h : Hid (Cel w B p g vcap tao tcap s)) (ao : Option Addr) (cap : Nat) (HN : Hid (s.vs.length = 0)) :
    Calls Try.prog 11 #[.pointer (some ⟨p, 0, none⟩), .slice ao 0 cap] w fun e w' => e = .returned (.int .i64 0) ∧ w' = w := by
  have hc := h.out.cells
  rw [HN.out] at hc
  obtain ⟨c0, c1, c2, cf⟩ := hc
  have hcp := run_copy_none (P := Try.prog) w 22 22 3 2 (some ⟨g, 0, none⟩) ao 0 vcap 0 cap Try.underlying22 hszI rfl
  go_enter Try.func11, Try.ntmps11
  go_wp2
  go_ret
  exact ⟨rfl, rfl⟩
set_option maxHeartbeats 400000 in
theorem lay_some (h : Hid (Cel w B p g vcap tao tcap s)) (ad : Addr) (n cap : Nat) (l : List Int) (cur : Array Value) (HN : Hid (s.vs.length = n)) (HL : Hid (n = l.length)) (HR : Hid (Row w (some ad) (vals l))) (HG : Hid (w.heap[g]? = some (.cells cur 2 (0, 0)))) (HF : Hid (n ≤ cur.size)) :
    Calls Try.prog 11 #[.pointer (some ⟨p, 0, none⟩), .slice (some ad) n cap] w fun e w' => e = .returned (.int .i64 0) ∧ w' = w.setRow g (cur.toList.take 0 ++ vals l ++ cur.toList.drop (0 + (vals l).length)).toArray := by
  have hc := h.out.cells
  rw [HN.out] at hc
  obtain ⟨c0, c1, c2, cf⟩ := hc
  have HLL : Hid ((vals l).length = n) := by rw [len_vals]; exact HL.out.symm
  have hcp := run_copy_row (P := Try.prog) w 22 22 3 2 g 0 n vcap ad n cap cur 2 (vals l) Try.underlying22 hszI HG.out (by rw [HLL.out]; simp) (fun j v hv => (HR.out.cell j v hv).elim (fun a h => by cases h.1; exact h.2)) (by rw [HLL.out]; have := HF.out; omega) (vals_one l)
  obtain ⟨X, hX⟩ : ∃ X, w.setRow g (cur.toList.take 0 ++ vals l ++ cur.toList.drop (0 + (vals l).length)).toArray = X := ⟨_, rfl⟩
  rw [hX] at hcp ⊢
  clear hX
  go_enter Try.func11, Try.ntmps11
  go_wp2
  go_ret
  exact ⟨rfl, rfl⟩
/-- Lay: THE VALUES ARE THOSE OF THE LIST. -/
theorem lay_yes (h : Cel w B p g vcap tao tcap s) (ao : Option Addr) (n cap : Nat) (l : List Int) (hN : s.vs.length = n) (hL : n = l.length) (hR : Row w ao (vals l)) :
    Calls Try.prog 11 #[.pointer (some ⟨p, 0, none⟩), .slice ao n cap] w fun e w' => e = .returned (.int .i64 0) ∧ Cel w' B p g vcap tao tcap ⟨l, s.n, s.tr⟩ ∧ Kept (fun i => i = g) w w' := by
  by_cases h0 : n = 0
  · subst h0
    refine (lay_zero h ao cap hN).mono ?_
    rintro e w' ⟨rfl, rfl⟩
    have e1 : l = [] := List.eq_nil_of_length_eq_zero hL.symm
    have e2 : s.vs = [] := List.eq_nil_of_length_eq_zero hN
    have e3 : (⟨l, s.n, s.tr⟩ : S) = s := by cases s; simp_all
    rw [e3]
    exact ⟨rfl, h, Kept.refl _ _⟩
  · obtain ⟨ad, rfl, _⟩ := hR.lt (by rw [len_vals]; omega)
    rcases h.val.2 with ⟨e, _⟩ | ⟨g', cap', cur, e, hb, hg, h1, h2, h3, h4⟩
    · cases e
    · cases e
      refine (lay_some h ad n cap l cur hN hL hR hg (show n ≤ cur.size by omega)).mono ?_
      rintro e w' ⟨rfl, rfl⟩
      have kk : Kept (fun i => i = g) w (w.setRow g (cur.toList.take 0 ++ vals l ++ cur.toList.drop (0 + (vals l).length)).toArray) := kept_row _ w g _ rfl
      have hrow := setRow_heap w g cur (cur.toList.take 0 ++ vals l ++ cur.toList.drop (0 + (vals l).length)).toArray 2 (0, 0) hg
      refine ⟨rfl, ?_, kk⟩
      have hl2 : s.vs.length = l.length := hN.trans hL
      exact {
        blk := by
          have := (kk.block p (h.lt p (.inl rfl)).2 h.hpg).trans h.blk
          rw [hl2] at this
          exact this
        val := ⟨by simp, .inr ⟨g, vcap, _, rfl, hb, hrow, by rw [← hl2]; exact h1, h2, by simp; rw [← hl2]; omega, by simp⟩⟩
        tra := own_kept h.tra kk (fun i e => by
          cases tao with
          | none => cases e
          | some a => cases e; exact h.htg a rfl)
        hp := h.hp
        hg := h.hg
        hpg := h.hpg
        htp := h.htp
        htg := h.htg }
set_option maxHeartbeats 400000 in
theorem at_no (h : Hid (Cel w B p g vcap tao tcap s)) (x : Int) (m : Nat) (HN : Hid (s.vs.length = m)) (hi : inB x m = false) :
    Calls Try.prog 12 #[.pointer (some ⟨p, 0, none⟩), .int .i64 x] w fun e w' => e = .returned (.int .i64 0) ∧ w' = w := by
  have hc := h.out.cells
  rw [HN.out] at hc
  obtain ⟨c0, c1, c2, cf⟩ := hc
  go_enter Try.func12, Try.ntmps12
  go_wp2_with (go_at_call 21; refine (within_any _ _ _).mono ?_; rintro e w' ⟨rfl, rfl⟩)
  go_ret
  exact ⟨rfl, rfl⟩
set_option maxHeartbeats 400000 in
theorem at_yes (h : Hid (Cel w B p g vcap tao tcap s)) (j m : Nat) (HN : Hid (s.vs.length = m)) (hj : j < m) (y : Int) (HY : Hid (s.vs.getD j 0 = y)) :
    Calls Try.prog 12 #[.pointer (some ⟨p, 0, none⟩), .int .i64 j] w fun e w' => e = .returned (.int .i64 y) ∧ w' = w := by
  have hc := h.out.cells
  rw [HN.out] at hc
  obtain ⟨c0, c1, c2, cf⟩ := hc
  have hi : inB (j : Int) m = true := inB_iff.2 ⟨by omega, by omega⟩
  have i1 : (0 : Int) ≤ (j : Int) := by omega
  have i2 : (j : Int) < (m : Int) := by omega
  have cc : w.cell? ⟨g, j, none⟩ = some (.int .i64 y) := by
    obtain ⟨a', e, hc⟩ := (own_row h.out.val).1.cell j _ (vals_at s.vs j (by rw [HN.out]; exact hj))
    cases e
    rw [Addr.add_lit, Nat.zero_add] at hc
    rw [hc, HY.out]
  go_enter Try.func12, Try.ntmps12
  go_wp2_with (go_at_call 21; refine (within_any _ _ _).mono ?_; rintro e w' ⟨rfl, rfl⟩)
  go_ret
  exact ⟨rfl, rfl⟩
end
end Go.Proofs.Ytadobkecdcnjkab.Ce
