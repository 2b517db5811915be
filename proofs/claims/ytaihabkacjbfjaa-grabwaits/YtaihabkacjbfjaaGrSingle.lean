/- GrabSingle answers true. -/
import Derived.Test.YtaihabkacjbfjaaGrStarts
namespace Go.Proofs.Ytaihabkacjbfjaa.Gr
open Go.RowKit Go.Proofs.Ytaihabkacjbfjaa.Ce

/-- Its phase on the way up, on the way down. -/
def phU (N j : Nat) : Int := if j = N then 2 else 1
def phD (j : Nat) : Int := if j = 0 then 5 else 4
theorem phU_lt {N j : Nat} (h : j < N) : phU N j = 1 := by unfold phU; rw [if_neg (by omega)]
theorem phU_end (N : Nat) : phU N N = 2 := by unfold phU; rw [if_pos rfl]
theorem up_take {who : Int} {L : List Int} {b : Bool} {j N : Nat} (hN : N = L.length) (h : j < N) : takeG ⟨who, L, 1, (j : Int), 0, b⟩ true = ⟨who, L, phU N (j + 1), (j : Int) + 1, 0, b⟩ := by
  have hn : hasN ⟨who, L, 1, (j : Int), 0, b⟩ = true := has_iff.2 (.inl ⟨rfl, by simp only; omega, by simp only; omega⟩)
  unfold takeG
  rw [if_pos hn, if_pos rfl, if_pos rfl]
  unfold phU
  by_cases e : j + 1 = N
  · rw [if_pos (by simp only; omega), if_pos e]
  · rw [if_neg (by simp only; omega), if_neg e]
theorem down_take {who : Int} {L : List Int} {b : Bool} {k N : Nat} (hN : N = L.length) (h : k < N) : takeG ⟨who, L, 4, (k : Int) + 1, 0, b⟩ true = ⟨who, L, phD k, (k : Int), 0, b⟩ := by
  have hn : hasN ⟨who, L, 4, (k : Int) + 1, 0, b⟩ = true := has_iff.2 (.inr ⟨.inr rfl, by simp only; omega, by simp only; omega⟩)
  unfold takeG
  rw [if_pos hn, if_neg (by simp)]
  unfold phD
  by_cases e : k = 0
  · rw [if_pos (by simp only; omega), if_neg (by simp), if_pos e]
    simp
  · rw [if_neg (by simp only; omega), if_neg e]
    simp
theorem up_free {who : Int} {L : List Int} {b : Bool} {N : Nat} (hN : N = L.length) : freeG ⟨who, L, 2, (N : Int), 0, b⟩ = ⟨who, L, phD N, (N : Int), 0, b⟩ := by
  unfold freeG phD
  rw [if_pos rfl, ← hN]

/-- The grab in the block B, and its cells. -/
structure At (w W : World) (B : Nat) (who p a t : Int) (b : Bool) (ao : Option Addr) (n cap : Nat) (l : List Int) : Prop where
  box : InG W B who (.slice ao n cap) p a t b
  has : Has W ao n cap l
  low : Below w.heap.size w W
  base : w.heap.size ≤ B
section
variable {w W W' : World} {B : Nat} {who p a t : Int} {b : Bool} {ao : Option Addr} {n cap : Nat} {l : List Int}
theorem At.below (h : At w W B who p a t b ao n cap l) (hb : Below W.heap.size W W') : At w W' B who p a t b ao n cap l := ⟨h.box.below hb, h.has.below hb, q_trans h.low hb, h.base⟩
/-- It is written anew, with new cells. -/
theorem At.store {p' a' t' : Int} {ao' : Option Addr} {n' cap' : Nat} {l' : List Int} (h : At w W B who p a t b ao n cap l) (hm : Mine W' W.heap.size ao' n' cap' l') (hb : Below W.heap.size W W') :
    At w ((((((W'.setCell ⟨B, 0, none⟩ (.int .i64 who)).setCell ⟨B, 1, none⟩ (.slice ao' n' cap')).setCell ⟨B, 2, none⟩ (.int .i64 p')).setCell ⟨B, 3, none⟩ (.int .i64 a')).setCell ⟨B, 4, none⟩ (.int .i64 t')).setCell ⟨B, 5, none⟩ (.bool b)) B who p' a' t' b ao' n' cap' l' := by
  have hlt := h.box.lt
  have k := kept_store W' B who (.slice ao' n' cap') p' a' t' b
  have hq := q_trans h.low hb
  refine ⟨(h.box.below hb).store, (hm.kept k (fun i hi e => by omega) (Nat.le_refl _)).has, hq.trans (k.below w.heap.size hq.size (fun i e => by have := h.base; omega)), h.base⟩
end
theorem at_new {w w1 : World} {who p a t : Int} {b : Bool} {ao : Option Addr} {n cap : Nat} {l : List Int} (h : Has w1 ao n cap l) (hb : Below w.heap.size w w1) :
    At w (w1.alloc (.cells #[.int .i64 who, .slice ao n cap, .int .i64 p, .int .i64 a, .int .i64 t, .bool b] 25)) w1.heap.size who p a t b ao n cap l :=
  ⟨inG_new w1 who (.slice ao n cap) p a t b 25, h.below (alloc_below _ _), q_alloc hb _, hb.size⟩
theorem single_start {who : Int} {b : Bool} {l : List Int} (h : startE who l = 0) : startG who b l = ⟨who, srt l, phU (srt l).length 0, 0, 0, b⟩ := by
  rw [startG_yes h]
  unfold phU
  by_cases e : l.length = 0
  · rw [if_pos e, if_pos (srt_len0.2 e).symm]
  · rw [if_neg e, if_neg (fun h => e (srt_len0.1 h.symm))]
set_option maxRecDepth 100000 in
set_option maxHeartbeats 2000000 in
theorem single_any (who : Int) (b : Bool) (ao : Option Addr) (l : List Int) (n cap : Nat) (w : World) (hn : n ≤ 9223372036854775807) (HH : Hid (Has w ao n cap l)) :
    Calls Try.prog 7 #[.int .i64 who, .bool b, .slice ao n cap] w fun e w' => e = .returned (.bool true) ∧ Below w.heap.size w w' := by
  by_cases h64 : (64 : Int) < (n : Int)
  · go_enter Try.func7, Try.ntmps7
    go_wp2_with fail
    refine (live_any _).mono ?_
    rintro e w1 ⟨rfl, b1⟩
    go_wp2_with fail
    go_ret
    exact ⟨rfl, b1⟩
  by_cases h1 : who < 1
  · go_enter Try.func7, Try.ntmps7
    go_wp2_with fail
    refine (live_any _).mono ?_
    rintro e w1 ⟨rfl, b1⟩
    go_wp2_with fail
    go_ret
    exact ⟨rfl, b1⟩
  have HS := hid (show n ≤ 64 by omega)
  go_enter Try.func7, Try.ntmps7
  go_wp2_with (at_builtin; go_loud (refine wpList_append_row _ rfl (.tmp 29) (.tmp 30) 22 3 _ 1 8 rfl Try.underlying22 infoN rfl (by decide) (by decide) w.heap.size _ 0 [] rfl (own0 w 3 1) ao n cap (vals l) rfl (by rw [len_vals, HH.out.len]; simp) HH.out.nil (HH.out.row.below (alloc_below w _)) (vals_one l) (by have := HS.out; omega) (alloc_below w _).size ?_; intro ao1 cap1 w1 own1 grow1; apply Hid.out))
  have HM1 := hid (app_mine own1)
  have HB1 := hid (app_below grow1)
  have HLL := hid HH.out.len
  clear own1 grow1 HH
  unfold Hid
  go_wp2_with fail
  refine (start_any who b ao1 n cap1 l _ HM1.out.has (by have := HS.out; omega)).mono ?_
  rintro e w2 ⟨ao2, cap2, rfl, m2, b2⟩
  by_cases hE : startE who l = 0
  · rw [single_start hE] at m2
    rw [single_start hE, hE]
    simp only at m2 ⊢
    have HNL : Hid ((srt l).length ≤ 64) := by have := len_srt l; have := HLL.out; have := HS.out; show _ ≤ _; omega
    have HRI := hid (rise_srt l)
    generalize hL : srt l = L at m2 HNL HRI ⊢
    clear hL
    obtain ⟨N, hN⟩ : ∃ N, L.length = N := ⟨_, rfl⟩
    rw [hN] at m2 HNL ⊢
    have HN := hid hN
    have HM2 := hid m2.has
    have HB2 := hid (q_trans HB1.out b2)
    clear m2 b2 HM1 HB1 hN
    go_wp2_with fail
    have HA := hid (at_new (who := who) (p := phU N 0) (a := 0) (t := 0) (b := b) HM2.out HB2.out)
    generalize w2.alloc _ = W at HA ⊢
    refine (num_any 0 _).mono ?_
    rintro e w3 ⟨rfl, hw⟩
    rw [hw]
    clear hw w3 HM2 HB2
    obtain ⟨c0, c1, c2, c3, c4, c5, cf⟩ := HA.out.box
    go_wp2_with fail
    clear c0 c1 c2 c3 c4 c5 cf
    have hN64 : N ≤ 64 := HNL.out
    go_loopw [10] (fun i wr => ∃ (j cc : Nat) (xo : Option Addr), j ≤ N ∧ i = .int .i64 j ∧ Hid (At w wr w2.heap.size who (phU N j) j 0 b xo N cc L)) (fun i _ => N - (intOf i).toNat)
    case atStart => exact ⟨0, cap2, ao2, Nat.zero_le _, rfl, HA⟩
    case round =>
      obtain ⟨j, cc, xo, hj, rfl, HJ⟩ := hrel
      by_cases hlt : j < N
      · have HJ1 : Hid (At w wr w2.heap.size who 1 j 0 b xo N cc L) := by have := HJ.out; rwa [phU_lt hlt] at this
        have i1 : (0 : Int) ≤ (j : Int) := by omega
        have i2 : (j : Int) < (N : Int) := by omega
        clear HJ
        obtain ⟨x, hx⟩ : ∃ x, L.getD j 0 = x := ⟨_, rfl⟩
        have HX := hid hx
        have CN := hid (fun W' H => next_try who j 0 b xo N cc L W' H hlt)
        rw [hx] at CN
        have CT := hid (fun W' H => take_any ⟨who, L, 1, (j : Int), 0, b⟩ true xo N cc W' H (by have := HNL.out; omega) (by have := HNL.out; simp only; omega) (by simp))
        rw [up_take HN.out.symm hlt] at CT
        clear hx
        obtain ⟨c0, c1, c2, c3, c4, c5, cf⟩ := HJ1.out.box
        go_wp2_with fail
        clear c0 c1 c2 c3 c4 c5 cf
        refine (CN.out _ HJ1.out.has).mono ?_
        rintro e w4 ⟨rfl, b4⟩
        have HJ4 := hid (HJ1.out.below b4)
        clear b4 HJ1 CN
        go_wp2_with fail
        have HJ5 := hid (HJ4.out.below (alloc_below w4 (.cells #[.int .i64 4, .int .i64 x, .int .i64 0, .int .i64 0, .int .i64 who] 35)))
        have HO5 := hid (inO_new w4 ⟨4, x, 0, 0, who⟩ 35)
        generalize w4.alloc _ = W5 at HJ5 HO5 ⊢
        obtain ⟨c0, c1, c2, c3, c4, c5, cf⟩ := HJ5.out.box
        obtain ⟨o0, o1, o2, o3, o4⟩ := HO5.out
        obtain ⟨a, e, cx⟩ := HJ5.out.has.cell j hlt
        subst e
        rw [HX.out] at cx
        by_cases hj0 : j = 0
        · have g0 : decide ((0 : Int) < (j : Int)) = false := by simp; omega
          have g1 : decide (0 < j) = false := by simp; omega
          clear hj0
          go_quiet (fail)
          go_wp2_with fail
          clear c0 c1 c2 c3 c4 c5 cf o0 o1 o2 o3 o4 cx HO5
          have HJ6 := hid (HJ5.out.below (q_drewN (Below.refl _ W5) nq))
          generalize W5.drewN nq = W6 at HJ6 ⊢
          refine (CT.out _ HJ6.out.has).mono ?_
          rintro e w7 ⟨ao7, cap7, rfl, m7, b7⟩
          have HJ8 := hid (HJ6.out.store (p' := phU N (j + 1)) (a' := (j : Int) + 1) (t' := 0) m7 b7)
          obtain ⟨c0, c1, c2, c3, c4, c5, cf⟩ := (HJ6.out.below b7).box
          clear m7 b7 CT HJ5 HJ6
          go_wp2_with fail
          clear c0 c1 c2 c3 c4 c5 cf
          go_roundw
          case rel => exact ⟨j + 1, cap7, ao7, by omega, by go_num, HJ8⟩
          case measure => simp [intOf]; omega
        · have g0 : (0 : Int) < (j : Int) := by omega
          have g1 : 0 < j := by omega
          have i3 : (0 : Int) ≤ (j : Int) - 1 := by omega
          have i4 : (j : Int) - 1 < (N : Int) := by omega
          obtain ⟨a', e, cy⟩ := HJ5.out.has.cell (j - 1) (by omega)
          cases e
          have hxy := rise_lt HRI.out (i := j - 1) (j := j) (by omega) (by rw [HN.out]; exact hlt)
          obtain ⟨y, hy⟩ : ∃ y, L.getD (j - 1) 0 = y := ⟨_, rfl⟩
          rw [hy] at cy hxy
          rw [HX.out] at hxy
          have hyx : decide (x ≤ y) = false := by simp; omega
          clear hj0 hy
          go_quiet (fail)
          go_wp2_with fail
          clear cy
          clear c0 c1 c2 c3 c4 c5 cf o0 o1 o2 o3 o4 cx HO5
          have HJ6 := hid (HJ5.out.below (q_drewN (Below.refl _ W5) nq))
          generalize W5.drewN nq = W6 at HJ6 ⊢
          refine (CT.out _ HJ6.out.has).mono ?_
          rintro e w7 ⟨ao7, cap7, rfl, m7, b7⟩
          have HJ8 := hid (HJ6.out.store (p' := phU N (j + 1)) (a' := (j : Int) + 1) (t' := 0) m7 b7)
          obtain ⟨c0, c1, c2, c3, c4, c5, cf⟩ := (HJ6.out.below b7).box
          clear m7 b7 CT HJ5 HJ6
          go_wp2_with fail
          clear c0 c1 c2 c3 c4 c5 cf
          go_roundw
          case rel => exact ⟨j + 1, cap7, ao7, by omega, by go_num, HJ8⟩
          case measure => simp [intOf]; omega
      · obtain rfl : j = N := by omega
        have HJ1 : Hid (At w wr w2.heap.size who 2 j 0 b xo j cc L) := by have := HJ.out; rwa [phU_end] at this
        clear HJ HA
        have CH := hid (fun W' H => held_any ⟨who, L, 2, (j : Int), 0, b⟩ xo j cc W' H (by have := HNL.out; omega))
        have HHL : Hid (heldG ⟨who, L, 2, (j : Int), 0, b⟩ = L) := List.take_of_length_le (by have := HN.out; simp; omega)
        rw [HHL.out] at CH
        have CF := hid (fun W' H => free_any ⟨who, L, 2, (j : Int), 0, b⟩ xo j cc W' H (by have := HNL.out; omega))
        rw [up_free HN.out.symm] at CF
        obtain ⟨c0, c1, c2, c3, c4, c5, cf⟩ := HJ1.out.box
        go_wp2_with fail
        clear c0 c1 c2 c3 c4 c5 cf
        refine (CH.out _ HJ1.out.has).mono ?_
        rintro e w4 ⟨ao4, m4, cap4, rfl, mm4, b4⟩
        obtain rfl : m4 = j := mm4.has.len.trans HN.out
        have HJ4 := hid (HJ1.out.below b4)
        clear b4 mm4 HJ1 CH
        obtain ⟨c0, c1, c2, c3, c4, c5, cf⟩ := HJ4.out.box
        go_wp2_with fail
        clear c0 c1 c2 c3 c4 c5 cf
        refine (CF.out _ HJ4.out.has).mono ?_
        rintro e w5 ⟨ao5, cap5, rfl, m5, b5⟩
        have HJ6 := hid (HJ4.out.store (p' := phD m4) (a' := (m4 : Int)) (t' := 0) m5 b5)
        obtain ⟨c0, c1, c2, c3, c4, c5, cf⟩ := (HJ4.out.below b5).box
        clear m5 b5 CF HJ4
        go_wp2_with fail
        clear c0 c1 c2 c3 c4 c5 cf
        generalize (((((w5.setCell _ _).setCell _ _).setCell _ _).setCell _ _).setCell _ _).setCell _ _ = W6 at HJ6 ⊢
        go_loopw [13] (fun i wr => ∃ (k cc : Nat) (xo : Option Addr), k ≤ m4 ∧ i = .int .i64 ((k : Int) - 1) ∧ Hid (At w wr w2.heap.size who (phD k) k 0 b xo m4 cc L)) (fun i _ => (intOf i + 1).toNat)
        case atStart => exact ⟨m4, cap5, ao5, Nat.le_refl _, rfl, HJ6⟩
        case round =>
          obtain ⟨j, cc', xo', hj', rfl, HJ⟩ := hrel
          cases j with
          | zero =>
            have HJ1 : Hid (At w wr w2.heap.size who 5 0 0 b xo' m4 cc' L) := HJ.out
            obtain ⟨c0, c1, c2, c3, c4, c5, cf⟩ := HJ1.out.box
            clear HJ
            go_wp2_with fail
            clear c0 c1 c2 c3 c4 c5 cf
            refine (next_none who 5 0 0 b xo' m4 cc' _ (by decide) (by decide) (by decide)).mono ?_
            rintro e w7 ⟨rfl, b7⟩
            have HJ7 := hid (HJ1.out.below b7)
            clear b7 HJ1
            obtain ⟨c0, c1, c2, c3, c4, c5, cf⟩ := HJ7.out.box
            have l7 := HJ7.out.box.lt
            go_wp2_with fail
            clear c0 c1 c2 c3 c4 c5 cf l7
            refine (live_any _).mono ?_
            rintro e w8 ⟨rfl, b8⟩
            have HB8 := hid (q_trans (q_alloc HJ7.out.low _) b8)
            clear b8 HJ7
            go_wp2_with fail
            go_ret
            exact ⟨rfl, HB8.out⟩
          | succ k =>
            have HJ1 : Hid (At w wr w2.heap.size who 4 ((k : Int) + 1) 0 b xo' m4 cc' L) := HJ.out
            have i1 : (0 : Int) ≤ (k : Int) := by omega
            have i2 : (k : Int) < (m4 : Int) := by omega
            have ek : ((k + 1 : Nat) : Int) - 1 = (k : Int) := by omega
            rw [ek]
            clear HJ ek
            obtain ⟨x, hx⟩ : ∃ x, L.getD k 0 = x := ⟨_, rfl⟩
            have HX := hid hx
            have CN := hid (fun W' H => next_free who k 0 b xo' m4 cc' L W' H (by omega) (by omega))
            rw [hx] at CN
            have CT := hid (fun W' H => take_any ⟨who, L, 4, (k : Int) + 1, 0, b⟩ true xo' m4 cc' W' H (by omega) (by simp only; omega) (by simp))
            rw [down_take HN.out.symm (by omega)] at CT
            clear hx
            obtain ⟨c0, c1, c2, c3, c4, c5, cf⟩ := HJ1.out.box
            go_wp2_with fail
            clear c0 c1 c2 c3 c4 c5 cf
            refine (CN.out _ HJ1.out.has).mono ?_
            rintro e w7 ⟨rfl, b7⟩
            have HJ7 := hid (HJ1.out.below b7)
            clear b7 HJ1 CN
            go_wp2_with fail
            have HJ8 := hid (HJ7.out.below (alloc_below w7 (.cells #[.int .i64 5, .int .i64 x, .int .i64 0, .int .i64 0, .int .i64 who] 35)))
            have HO8 := hid (inO_new w7 ⟨5, x, 0, 0, who⟩ 35)
            generalize w7.alloc _ = W8 at HJ8 HO8 ⊢
            obtain ⟨c0, c1, c2, c3, c4, c5, cf⟩ := HJ8.out.box
            obtain ⟨o0, o1, o2, o3, o4⟩ := HO8.out
            obtain ⟨a, e, cx⟩ := HJ8.out.has.cell k (by omega)
            subst e
            rw [HX.out] at cx
            go_quiet (fail)
            go_wp2_with fail
            clear c0 c1 c2 c3 c4 c5 cf o0 o1 o2 o3 o4 cx HO8
            have HJ9 := hid (HJ8.out.below (q_drewN (Below.refl _ W8) nq))
            generalize W8.drewN nq = W9 at HJ9 ⊢
            refine (CT.out _ HJ9.out.has).mono ?_
            rintro e wA ⟨aoA, capA, rfl, mA, bA⟩
            have HJB := hid (HJ9.out.store (p' := phD k) (a' := (k : Int)) (t' := 0) mA bA)
            obtain ⟨c0, c1, c2, c3, c4, c5, cf⟩ := (HJ9.out.below bA).box
            clear mA bA CT HJ8 HJ9
            go_wp2_with fail
            clear c0 c1 c2 c3 c4 c5 cf
            go_roundw
            case rel => exact ⟨k, capA, aoA, by omega, by go_num, HJB⟩
            case measure => simp [intOf]
  · rw [startG_no hE]
    rw [startG_no hE] at m2
    have hE' : (startE who l != 0) = true := by simpa using hE
    have HB2 := hid (q_trans HB1.out b2)
    generalize startE who l = E at hE hE' ⊢
    clear m2 b2 HM1 HB1 hE
    go_wp2_with fail
    refine (num_any E _).mono ?_
    rintro e w3 ⟨rfl, hw⟩
    rw [hw]
    clear hw w3
    go_wp2_with fail
    refine (live_any _).mono ?_
    rintro e w3 ⟨rfl, b3⟩
    have HB3 := hid (q_trans (q_alloc HB2.out _) b3)
    clear b3
    go_wp2_with fail
    go_ret
    exact ⟨rfl, HB3.out⟩
end Go.Proofs.Ytaihabkacjbfjaa.Gr
