/- The walk of CellsMany: it answers true. -/
import Derived.Test.YtadobkecdcnjkaaCeOps
namespace Go.Proofs.Ytadobkecdcnjkaa.Ce
open Go.RowKit

/-- Behind k stores of 0, 1, .. k - 1 into the second of three cells. -/
structure Many (k : Nat) (s : S) : Prop where
  len : s.vs.length = 3
  n : s.n = k
  tl : s.tr.length = min k 2000
  each : ∀ i, i < s.tr.length → (s.tr.getD i Rc.zero).o.v = i
theorem many_new : Many 0 (S.new 3) := ⟨rfl, rfl, rfl, fun i h => by simp [S.new] at h⟩
theorem Many.step {k : Nat} {s : S} (h : Many k s) (a ww : Int) : Many (k + 1) (s.step ⟨2, 1, a, k, ww⟩) ∧ okO ⟨2, 1, a, k, ww⟩ s.vs.length = true := by
  have hok : okO ⟨2, 1, a, k, ww⟩ s.vs.length = true := by rw [okO_iff, h.len]; simp
  refine ⟨?_, hok⟩
  rw [S.step_yes hok]
  have eo : (apR s.vs ⟨2, 1, a, k, ww⟩).o.v = k := by rw [apR_yes hok]
  by_cases ht : s.tr.length < 2000
  · simp only [if_pos ht]
    have hk : s.tr.length = k := by have := h.tl; omega
    refine ⟨by simp [apV_len, h.len], by simp [h.n], by simp; omega, fun i hi => ?_⟩
    by_cases e : i < s.tr.length
    · have e1 : (s.tr ++ [apR s.vs ⟨2, 1, a, k, ww⟩]).getD i Rc.zero = s.tr.getD i Rc.zero := by simp [List.getD, List.getElem?_append_left e]
      simp only [e1]
      exact h.each i e
    · have e0 : i = s.tr.length := by simp at hi; omega
      subst e0
      have e1 : (s.tr ++ [apR s.vs ⟨2, 1, a, k, ww⟩]).getD s.tr.length Rc.zero = apR s.vs ⟨2, 1, a, k, ww⟩ := by simp [List.getD]
      show ((s.tr ++ [apR s.vs ⟨2, 1, a, k, ww⟩]).getD s.tr.length Rc.zero).o.v = _
      rw [e1, eo, hk]
  · simp only [if_neg ht]
    exact ⟨by simp [apV_len, h.len], by simp [h.n], by show s.tr.length = _; have := h.tl; omega, h.each⟩

set_option maxRecDepth 100000 in
set_option maxHeartbeats 1000000 in
theorem cmany_no (x : Int) (o : O) (w : World) (h : Hid (x < 0 ∨ 2500 < x)) :
    Calls Try.prog 8 #[.int .i64 x, (.agg #[.int .i64 o.k, .int .i64 o.c, .int .i64 o.a, .int .i64 o.v, .int .i64 o.w])] w fun e w' => e = .returned (.bool true) ∧ Below w.heap.size w w' := by
  rcases h.out with h1 | h1
  · clear h
    go_enter Try.func8, Try.ntmps8
    go_wp2_with (go_at_call 10; refine (live_any _).mono ?_; rintro e w6 ⟨rfl, b6⟩)
    go_ret
    exact ⟨rfl, q_trans (alloc_below w _) b6⟩
  · have h2 : ¬ x < 0 := by omega
    clear h
    go_enter Try.func8, Try.ntmps8
    go_wp2_with (go_at_call 10; refine (live_any _).mono ?_; rintro e w6 ⟨rfl, b6⟩)
    go_ret
    exact ⟨rfl, q_trans (alloc_below w _) b6⟩

/-- A step's numbers lie in a block that may be written. -/
structure OwnO (w : World) (b : Nat) (o : O) : Prop where
  held : InO w b o
  f : ∀ i, w.frozen? ⟨b, i, none⟩ = false
theorem ownO_new (w : World) (o : O) (T : TypeId) : OwnO (w.alloc (.cells #[.int .i64 o.k, .int .i64 o.c, .int .i64 o.a, .int .i64 o.v, .int .i64 o.w] T)) w.heap.size o := ⟨inO_new w o T, fun i => by simp⟩
theorem OwnO.kept {S : Nat → Prop} {w w' : World} {b : Nat} {o : O} (h : OwnO w b o) (k : Kept S w w') (hs : ¬ S b) : OwnO w' b o :=
  ⟨h.held.kept k hs, fun i => (World.frozen?_of_block (a := ⟨b, i, none⟩) (k.block b h.held.lt hs)).trans (h.f i)⟩
theorem OwnO.below {w w' : World} {b : Nat} {o : O} (h : OwnO w b o) (hb : Below w.heap.size w w') : OwnO w' b o := h.kept (S := fun _ => False) (kept_below hb) (fun e => e)
theorem ownO_v {w : World} {b : Nat} {k c a v ww x : Int} (h : OwnO w b ⟨k, c, a, v, ww⟩) : OwnO (w.setCell ⟨b, 3, none⟩ (.int .i64 x)) b ⟨k, c, a, x, ww⟩ := by
  obtain ⟨⟨h0, h1, h2, h3, h4⟩, hf⟩ := h
  exact ⟨⟨(cell_set h0).trans (by simp), (cell_set h1).trans (by simp), (cell_set h2).trans (by simp), (cell_set h3).trans (by simp), (cell_set h4).trans (by simp)⟩, fun i => by simpa using hf i⟩
theorem ownO_kc {w : World} {b : Nat} {k c a v ww x y : Int} (h : OwnO w b ⟨k, c, a, v, ww⟩) : OwnO ((w.setCell ⟨b, 0, none⟩ (.int .i64 x)).setCell ⟨b, 1, none⟩ (.int .i64 y)) b ⟨x, y, a, v, ww⟩ := by
  obtain ⟨⟨h0, h1, h2, h3, h4⟩, hf⟩ := h
  exact ⟨⟨(cell_set (cell_set h0)).trans (by simp), (cell_set (cell_set h1)).trans (by simp), (cell_set (cell_set h2)).trans (by simp), (cell_set (cell_set h3)).trans (by simp), (cell_set (cell_set h4)).trans (by simp)⟩, fun i => by simpa using hf i⟩

set_option maxRecDepth 100000 in
set_option maxHeartbeats 2000000 in
theorem cmany_yes (n : Nat) (k c a v ww : Int) (w : World) (hn : n ≤ 2500) :
    Calls Try.prog 8 #[.int .i64 n, .agg #[.int .i64 k, .int .i64 c, .int .i64 a, .int .i64 v, .int .i64 ww]] w fun e w' => e = .returned (.bool true) ∧ Below w.heap.size w w' := by
  have HO0 := hid (ownO_new w ⟨k, c, a, v, ww⟩ 36)
  go_enter Try.func8, Try.ntmps8
  go_wp2_with fail
  refine (new_yes 3 _ (by decide)).mono ?_
  rintro e w1 ⟨rfl, hc1, b1⟩
  have HO1 := hid (HO0.out.below b1)
  have hz1 : w.heap.size < w1.heap.size := HO1.out.held.lt
  have HC1 : Hid (Cel w1 (w.heap.size + 1) (w.heap.size + 1 + 1) (w.heap.size + 1) 3 none 0 (S.new 3)) := by rw [show w.heap.size + 1 = (w.alloc (.cells #[.int .i64 k, .int .i64 c, .int .i64 a, .int .i64 v, .int .i64 ww] 36)).heap.size by simp]; exact hc1
  have HB1 := hid (q_trans (alloc_below w _) b1)
  have HZ1 := hid hz1
  clear hc1 b1 hz1 HO0
  obtain ⟨⟨c0, c1, c2, c3, c4⟩, cf⟩ := HO1.out
  go_wp2_with (go_at_call 12; refine (num_any _ _).mono ?_; rintro e w2 ⟨rfl, rfl⟩)
  generalize hW : (w2.setCell ⟨w.heap.size, 0, none⟩ (.int .i64 2)).setCell ⟨w.heap.size, 1, none⟩ (.int .i64 1) = W
  have kW : Kept (fun i => i = w.heap.size) w2 W := by rw [← hW]; exact (kept_set (fun i => i = w.heap.size) w2 _ _ rfl).setCell _ _ (fun _ => rfl)
  have HCW : Hid (Cel W (w.heap.size + 1) (w.heap.size + 1 + 1) (w.heap.size + 1) 3 none 0 (S.new 3)) := HC1.out.kept kW (fun i f e => by have := (HC1.out.lt i f).1; omega)
  have HOW : Hid (OwnO W w.heap.size ⟨2, 1, a, v, ww⟩) := by rw [← hW]; exact ownO_kc HO1.out
  have HBW : Hid (Below w.heap.size w W) := HB1.out.trans (kW.below _ HB1.out.size (fun i e => by omega))
  clear hW kW c0 c1 c2 c3 c4 cf HO1 HC1 HB1
  go_loopw [7] (fun i wr => ∃ q : Nat, q ≤ n ∧ i = .int .i64 q ∧ ∃ tao tcap s x, Hid (Cel wr (w.heap.size + 1) (w.heap.size + 1 + 1) (w.heap.size + 1) 3 tao tcap s) ∧ Hid (Many q s) ∧ Hid (OwnO wr w.heap.size ⟨2, 1, a, x, ww⟩) ∧ Hid (Below w.heap.size w wr)) (fun i _ => n - (intOf i).toNat)
  case atStart => exact ⟨0, Nat.zero_le _, rfl, none, 0, S.new 3, v, HCW, many_new, HOW, HBW⟩
  case round =>
    obtain ⟨q, hq, rfl, tao, tcap, s, x, HC, HM, HO, HB⟩ := hrel
    obtain ⟨⟨c0, c1, c2, c3, c4⟩, cf⟩ := HO.out
    by_cases hlt : q < n
    · have kX := kept_set (fun i => i = w.heap.size) wr ⟨w.heap.size, 3, none⟩ (.int .i64 q) rfl
      have HCX := hid (HC.out.kept kX (fun i f e => by have := (HC.out.lt i f).1; omega))
      have HOX := hid (ownO_v (x := q) HO.out)
      have HBX := hid (HB.out.trans (kX.below _ HB.out.size (fun i e => by omega)))
      clear kX
      go_wp2_with fail
      refine (do_any HCX.out ⟨2, 1, a, q, ww⟩ (by have := HM.out.n; omega)).mono ?_
      rintro e w5 ⟨rfl, tao', tcap', hc5, kk, -⟩
      have HC5 := hid hc5
      have HM5 := hid (HM.out.step a ww).1
      have HO5 := hid (HOX.out.kept kk (fun f => by have := (HCX.out.lt _ f).1; omega))
      have HB5 := hid (HBX.out.trans (kk.below _ HBX.out.size (fun i f => by have := (HCX.out.lt i f).1; omega)))
      clear hc5 kk c0 c1 c2 c3 c4 cf
      go_wp2_with fail
      go_roundw
      case rel => exact ⟨q + 1, by omega, by go_num, tao', tcap', _, _, HC5, HM5, HO5, HB5⟩
      case measure => simp [intOf]; omega
    · obtain rfl : q = n := by omega
      go_wp2_with fail
      refine (do_nil ⟨2, 1, a, x, ww⟩ _).mono ?_
      rintro e w3 ⟨rfl, b3⟩
      have HC3 := hid (HC.out.below b3)
      have HB3 := hid (q_trans HB.out b3)
      clear b3 c0 c1 c2 c3 c4 cf
      go_wp2_with (first | (go_at_call 12; refine (num_any _ _).mono ?_; rintro e w4 ⟨rfl, rfl⟩) | (go_at_call 19; refine (peek_nil _).mono ?_; rintro e w4 ⟨rfl, rfl⟩))
      refine (trace_nil _).mono ?_
      rintro e w5 ⟨rfl, rfl⟩
      go_wp2_with fail
      refine (steps_nil _).mono ?_
      rintro e w6 ⟨rfl, rfl⟩
      go_wp2_with fail
      refine (len_nil _).mono ?_
      rintro e w7 ⟨rfl, rfl⟩
      have HTL := hid (show s.tr.length ≤ 2000 by have := HM.out.tl; omega)
      obtain ⟨tn, htn⟩ : ∃ tn, s.tr.length = tn := ⟨_, rfl⟩
      have HTN := hid htn
      have HTM := hid (show tn = min q 2000 by rw [← htn]; exact HM.out.tl)
      have HTR := hid (trace_any HC3 (show s.tr.length ≤ 5000 by have := HTL.out; omega))
      rw [htn] at HTR
      clear htn
      go_wp2_with fail
      refine HTR.out.mono ?_
      rintro e w8 ⟨ao8, cap8, rfl, own8, b8⟩
      obtain ⟨R8, -, -, -⟩ := own_row own8
      have HR8 := hid R8
      have HC8 := hid (HC3.out.below b8)
      have HB8 := hid (q_trans HB3.out b8)
      have HSE := hid (steps_any HC8)
      rw [HM.out.n] at HSE
      clear own8 R8 b8 HTR
      go_wp2_with fail
      refine HSE.out.mono ?_
      rintro e w9 ⟨rfl, rfl⟩
      by_cases hq2 : q ≤ 2000
      · have htq : tn = q := by have := HTM.out; omega
        have HTQ := hid (show s.tr.length = q by rw [HTN.out]; exact htq)
        go_wp2_with fail
        clear htq
        go_loop [13] (fun i => ∃ j : Nat, j ≤ q ∧ i = .int .i64 j) (fun i => q - (intOf i).toNat)
        case atStart => exact ⟨0, Nat.zero_le _, rfl⟩
        case round =>
          obtain ⟨j, hj, rfl⟩ := hrel
          by_cases hjl : j < q
          · have j1 : (0 : Int) ≤ (j : Int) := by omega
            have j2 : (j : Int) < ((q : Nat) : Int) := by omega
            obtain ⟨at', rfl, hat⟩ := atR_of HR8.out j (by rw [HTQ.out]; exact hjl)
            have d3 := hat.c3
            rw [HM.out.each j (by rw [HTQ.out]; exact hjl)] at d3
            clear hat
            go_wp2_with fail
            go_round
            case rel => exact ⟨j + 1, by omega, by go_num⟩
            case measure => simp [intOf]; omega
          · have hje : ¬ (j : Int) < ((q : Nat) : Int) := by omega
            go_wp2_with fail
            refine (live_any _).mono ?_
            rintro e w10 ⟨rfl, b10⟩
            have HBE := hid (q_trans HB8.out b10)
            clear b10
            go_wp2_with fail
            go_ret
            exact ⟨rfl, HBE.out⟩
      · have htq : tn = 2000 := by have := HTM.out; omega
        have HTQ := hid (show s.tr.length = 2000 by rw [HTN.out]; exact htq)
        go_wp2_with fail
        clear htq
        go_loop [13] (fun i => ∃ j : Nat, j ≤ 2000 ∧ i = .int .i64 j) (fun i => 2000 - (intOf i).toNat)
        case atStart => exact ⟨0, Nat.zero_le _, rfl⟩
        case round =>
          obtain ⟨j, hj, rfl⟩ := hrel
          by_cases hjl : j < 2000
          · have j1 : (0 : Int) ≤ (j : Int) := by omega
            have j2 : (j : Int) < ((2000 : Nat) : Int) := by omega
            obtain ⟨at', rfl, hat⟩ := atR_of HR8.out j (by rw [HTQ.out]; exact hjl)
            have d3 := hat.c3
            rw [HM.out.each j (by rw [HTQ.out]; exact hjl)] at d3
            clear hat
            go_wp2_with fail
            go_round
            case rel => exact ⟨j + 1, by omega, by go_num⟩
            case measure => simp [intOf]; omega
          · have hje : ¬ (j : Int) < ((2000 : Nat) : Int) := by omega
            go_wp2_with fail
            refine (live_any _).mono ?_
            rintro e w10 ⟨rfl, b10⟩
            have HBE := hid (q_trans HB8.out b10)
            clear b10
            go_wp2_with fail
            go_ret
            exact ⟨rfl, HBE.out⟩

theorem cmany_any (x : Int) (o : O) (w : World) :
    Calls Try.prog 8 #[.int .i64 x, (.agg #[.int .i64 o.k, .int .i64 o.c, .int .i64 o.a, .int .i64 o.v, .int .i64 o.w])] w fun e w' => e = .returned (.bool true) ∧ Below w.heap.size w w' := by
  by_cases h : x < 0 ∨ 2500 < x
  · exact cmany_no x o w h
  · obtain ⟨n, rfl⟩ := Int.eq_ofNat_of_zero_le (show 0 ≤ x by omega)
    obtain ⟨k, c, a, v, ww⟩ := o
    exact cmany_yes n k c a v ww w (by omega)
end Go.Proofs.Ytadobkecdcnjkaa.Ce
