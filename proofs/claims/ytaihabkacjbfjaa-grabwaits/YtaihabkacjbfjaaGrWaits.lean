/- GrabWaits answers true. -/
import Derived.Test.YtaihabkacjbfjaaGrSingle
import Derived.Test.YtaihabkacjbfjaaGrBools
import Derived.Deep.RegionHeld3
import Derived.Deep.RegionWith
import Derived.Deep.CutRange
namespace Go.Proofs.Ytaihabkacjbfjaa.Gr
open Go.RowKit Go.Proofs.Ytaihabkacjbfjaa.Ce

/-- One that waits, or does not, at the i-th step. -/
structure Wt (N : Nat) (p a t : Int) (b : Bool) (i : Nat) : Prop where
  a0 : 0 ≤ a
  al : a ≤ N
  t0 : 0 ≤ t
  tl : t ≤ i
  wt : b = true → t = 0 ∧ p ≠ 3
  ph : (p = 1 ∧ a < N) ∨ (p = 2 ∧ a = N) ∨ (p = 3 ∧ 1 ≤ a)
theorem wt_start (N : Nat) (b : Bool) : Wt N (phU N 0) 0 0 b 0 := by
  refine ⟨by omega, by omega, by omega, by omega, fun _ => ⟨rfl, ?_⟩, ?_⟩
  · unfold phU; split <;> decide
  · unfold phU
    by_cases e : 0 = N
    · rw [if_pos e]; omega
    · rw [if_neg e]; omega
theorem held_len {who p a t : Int} {b : Bool} {L : List Int} {N : Nat} (hN : N = L.length) (h0 : 0 ≤ a) (h1 : a ≤ N) : ((heldG ⟨who, L, p, a, t, b⟩).length : Int) = a := by
  unfold heldG
  rw [List.length_take]
  simp only
  omega
theorem t_up {who a t : Int} {b : Bool} {L : List Int} {N : Nat} (hN : N = L.length) (h0 : 0 ≤ a) (h1 : a < N) : takeG ⟨who, L, 1, a, t, b⟩ true = ⟨who, L, if a + 1 = N then 2 else 1, a + 1, t, b⟩ := by
  have hn : hasN ⟨who, L, 1, a, t, b⟩ = true := has_iff.2 (.inl ⟨rfl, h0, by simp only; omega⟩)
  unfold takeG
  rw [if_pos hn, if_pos rfl, if_pos rfl, ← hN]
theorem t_wait {who a t : Int} {L : List Int} {N : Nat} (hN : N = L.length) (h0 : 0 ≤ a) (h1 : a < N) : takeG ⟨who, L, 1, a, t, true⟩ false = ⟨who, L, 1, a, t, true⟩ := by
  have hn : hasN ⟨who, L, 1, a, t, true⟩ = true := has_iff.2 (.inl ⟨rfl, h0, by simp only; omega⟩)
  unfold takeG
  rw [if_pos hn, if_pos rfl, if_neg (by decide), if_pos rfl]
theorem t_ref {who a t : Int} {L : List Int} {N : Nat} (hN : N = L.length) (h0 : 0 ≤ a) (h1 : a < N) : takeG ⟨who, L, 1, a, t, false⟩ false = ⟨who, L, if a = 0 then 1 else 3, a, t + 1, false⟩ := by
  have hn : hasN ⟨who, L, 1, a, t, false⟩ = true := has_iff.2 (.inl ⟨rfl, h0, by simp only; omega⟩)
  unfold takeG
  rw [if_pos hn, if_pos rfl, if_neg (by decide), if_neg (by simp)]
theorem t_have {who a t : Int} {b v : Bool} {L : List Int} : takeG ⟨who, L, 2, a, t, b⟩ v = ⟨who, L, 2, a, t, b⟩ := by
  have hn : hasN ⟨who, L, 2, a, t, b⟩ = false := has_not.2 (by simp)
  simp [takeG, hn]
theorem t_back {who a t : Int} {b v : Bool} {L : List Int} {N : Nat} (hN : N = L.length) (h0 : 1 ≤ a) (h1 : a ≤ N) : takeG ⟨who, L, 3, a, t, b⟩ v = ⟨who, L, if a - 1 = 0 then 1 else 3, a - 1, t, b⟩ := by
  have hn : hasN ⟨who, L, 3, a, t, b⟩ = true := has_iff.2 (.inr ⟨.inl rfl, h0, by simp only; omega⟩)
  unfold takeG
  rw [if_pos hn, if_neg (by simp)]
  simp
/-- Two grabs of one, in the blocks B and D: ahead of a step, and behind it. -/
structure Two (w W : World) (B D : Nat) (who p a t : Int) (b : Bool) (ao : Option Addr) (n cap : Nat) (p' a' t' : Int) (ao' : Option Addr) (cap' : Nat) (l : List Int) : Prop where
  g : At w W B who p a t b ao n cap l
  h : At w W D who p' a' t' b ao' n cap' l
  far : ∀ x, ao' = some x → x.block ≠ B
section
variable {w W W' w4 : World} {B D : Nat} {who p a t p' a' t' : Int} {b : Bool} {ao ao' : Option Addr} {n cap cap' : Nat} {l : List Int}
/-- The second is laid behind the call. -/
theorem two_after (h : At w W B who p a t b ao n cap l) (hb : Below W.heap.size W w4) (hm : Mine w4 W.heap.size ao' n cap' l) :
    Two w (w4.alloc (.cells #[.int .i64 who, .slice ao' n cap', .int .i64 p', .int .i64 a', .int .i64 t', .bool b] 25)) B w4.heap.size who p a t b ao n cap p' a' t' ao' cap' l :=
  ⟨(h.below hb).below (alloc_below _ _), at_new hm.has (q_trans h.low hb), fun x e => by have := hm.new x e; have := h.box.lt; omega⟩
/-- Its box was laid ahead of it. -/
theorem two_before {z : Value} {zw zp za zt : Int} {zb : Bool} (h : At w W B who p a t b ao n cap l) (hz : InG w4 W.heap.size zw z zp za zt zb) (hb : Below W.heap.size W w4) (hm : Mine w4 (W.heap.size + 1) ao' n cap' l) :
    Two w ((((((w4.setCell ⟨W.heap.size, 0, none⟩ (.int .i64 who)).setCell ⟨W.heap.size, 1, none⟩ (.slice ao' n cap')).setCell ⟨W.heap.size, 2, none⟩ (.int .i64 p')).setCell ⟨W.heap.size, 3, none⟩ (.int .i64 a')).setCell ⟨W.heap.size, 4, none⟩ (.int .i64 t')).setCell ⟨W.heap.size, 5, none⟩ (.bool b)) B W.heap.size who p a t b ao n cap p' a' t' ao' cap' l := by
  have k := kept_store w4 W.heap.size who (.slice ao' n cap') p' a' t' b
  have hk := h.below hb
  have hq := hk.low.trans (k.below w.heap.size hk.low.size (fun i e => by have := h.low.size; omega))
  refine ⟨⟨hk.box.kept k (fun e => by have := h.box.lt; omega), ?_, hq, h.base⟩, ⟨hz.store, (hm.kept k (fun i h e => by omega) (Nat.le_refl _)).has, hq, h.low.size⟩, fun x e => by have := hm.new x e; have := h.box.lt; omega⟩
  refine hk.has.kept k (fun h0 x e e2 => ?_)
  obtain ⟨y, e3, hy⟩ := h.has.row.lt h0
  rw [e] at e3
  cases e3
  omega
theorem Two.below (h : Two w W B D who p a t b ao n cap p' a' t' ao' cap' l) (hb : Below W.heap.size W W') : Two w W' B D who p a t b ao n cap p' a' t' ao' cap' l := ⟨h.g.below hb, h.h.below hb, h.far⟩
/-- The first is written anew: it is the second. -/
theorem Two.shut (h : Two w W B D who p a t b ao n cap p' a' t' ao' cap' l) :
    At w ((((((W.setCell ⟨B, 0, none⟩ (.int .i64 who)).setCell ⟨B, 1, none⟩ (.slice ao' n cap')).setCell ⟨B, 2, none⟩ (.int .i64 p')).setCell ⟨B, 3, none⟩ (.int .i64 a')).setCell ⟨B, 4, none⟩ (.int .i64 t')).setCell ⟨B, 5, none⟩ (.bool b)) B who p' a' t' b ao' n cap' l := by
  have k := kept_store W B who (.slice ao' n cap') p' a' t' b
  exact ⟨h.g.box.store, h.h.has.kept k (fun _ x e => h.far x e), h.g.low.trans (k.below w.heap.size h.g.low.size (fun i e => by have := h.g.base; omega)), h.g.base⟩
/-- What stands in each world of a test. -/
abbrev SQ (w W : World) (B D : Nat) (who p a t : Int) (b : Bool) (ao : Option Addr) (n cap : Nat) (p' a' t' : Int) (ao' : Option Addr) (cap' : Nat) (l : List Int) (xa : Addr) (v : Bool) : Prop :=
  W.cell? ⟨B, 0, none⟩ = some (.int .i64 who) ∧ W.cell? ⟨B, 1, none⟩ = some (.slice ao n cap) ∧ W.cell? ⟨B, 2, none⟩ = some (.int .i64 p) ∧ W.cell? ⟨B, 3, none⟩ = some (.int .i64 a) ∧ W.cell? ⟨B, 4, none⟩ = some (.int .i64 t) ∧ W.cell? ⟨B, 5, none⟩ = some (.bool b) ∧
  W.cell? ⟨D, 0, none⟩ = some (.int .i64 who) ∧ W.cell? ⟨D, 1, none⟩ = some (.slice ao' n cap') ∧ W.cell? ⟨D, 2, none⟩ = some (.int .i64 p') ∧ W.cell? ⟨D, 3, none⟩ = some (.int .i64 a') ∧ W.cell? ⟨D, 4, none⟩ = some (.int .i64 t') ∧ W.cell? ⟨D, 5, none⟩ = some (.bool b) ∧
  W.cell? xa = some (.bool v) ∧ Hid (Two w W B D who p a t b ao n cap p' a' t' ao' cap' l)
variable {xa : Addr} {v : Bool}
theorem sq_of (h : Two w W B D who p a t b ao n cap p' a' t' ao' cap' l) (hv : W.cell? xa = some (.bool v)) : SQ w W B D who p a t b ao n cap p' a' t' ao' cap' l xa v :=
  ⟨h.g.box.c0, h.g.box.c1, h.g.box.c2, h.g.box.c3, h.g.box.c4, h.g.box.c5, h.h.box.c0, h.h.box.c1, h.h.box.c2, h.h.box.c3, h.h.box.c4, h.h.box.c5, hv, h⟩
theorem sq_two (h : SQ w W B D who p a t b ao n cap p' a' t' ao' cap' l xa v) : Two w W B D who p a t b ao n cap p' a' t' ao' cap' l := h.2.2.2.2.2.2.2.2.2.2.2.2.2.out
theorem sq_v (h : SQ w W B D who p a t b ao n cap p' a' t' ao' cap' l xa v) : W.cell? xa = some (.bool v) := h.2.2.2.2.2.2.2.2.2.2.2.2.1
theorem sq_keep (hb : Below W.heap.size W W') (h : SQ w W B D who p a t b ao n cap p' a' t' ao' cap' l xa v) : SQ w W' B D who p a t b ao n cap p' a' t' ao' cap' l xa v :=
  sq_of ((sq_two h).below hb) ((hb.cell (World.block_lt_of_cell? W _ (sq_v h))).trans (sq_v h))
theorem sq_drew (h : SQ w W B D who p a t b ao n cap p' a' t' ao' cap' l xa v) : SQ w W.drew B D who p a t b ao n cap p' a' t' ao' cap' l xa v := sq_keep (Below.refl _ W).drew h
end
/-- Held, told by how many. -/
theorem held_k (who p a t : Int) (b : Bool) (ao : Option Addr) (N cap K : Nat) (L : List Int) (w : World) (H : Has w ao N cap L) (hN : N ≤ 64) (ha : a = (K : Int)) (hK : K ≤ N) :
    Calls Try.prog 21 #[.agg #[.int .i64 who, .slice ao N cap, .int .i64 p, .int .i64 a, .int .i64 t, .bool b]] w fun e w' => ∃ ao' cap', e = .returned (.slice ao' K cap') ∧ Below w.heap.size w w' := by
  refine (held_any ⟨who, L, p, a, t, b⟩ ao N cap w H (by omega)).mono ?_
  rintro e w' ⟨ao', m, cap', rfl, hm, b⟩
  have e1 : m = K := by
    have h1 := hm.has.len
    have h2 := held_len (who := who) (p := p) (t := t) (b := ‹Bool›) (L := L) (N := N) (a := a) H.len (by omega) (by omega)
    rw [h1]
    omega
  subst e1
  exact ⟨ao', cap', rfl, b⟩
set_option maxRecDepth 100000 in
set_option maxHeartbeats 20000000 in
theorem waits_any (who : Int) (b : Bool) (ao : Option Addr) (l : List Int) (n cap : Nat) (bo : Option Addr) (m : List Bool) (k kap : Nat) (w : World) (hn : n ≤ 9223372036854775807) (HH : Hid (Has w ao n cap l)) (hk : k ≤ 9223372036854775807) (HK : Hid (HasB w bo k m)) :
    Calls Try.prog 8 #[.int .i64 who, .bool b, .slice ao n cap, .slice bo k kap] w fun e w' => e = .returned (.bool true) ∧ Below w.heap.size w w' := by
  by_cases h64 : (64 : Int) < (n : Int)
  · go_enter Try.func8, Try.ntmps8
    go_wp2_with fail
    refine (live_any _).mono ?_
    rintro e w1 ⟨rfl, b1⟩
    go_wp2_with fail
    go_ret
    exact ⟨rfl, b1⟩
  by_cases h300 : (300 : Int) < (k : Int)
  · go_enter Try.func8, Try.ntmps8
    go_wp2_with fail
    refine (live_any _).mono ?_
    rintro e w1 ⟨rfl, b1⟩
    go_wp2_with fail
    go_ret
    exact ⟨rfl, b1⟩
  have HS := hid (show n ≤ 64 by omega)
  have HK3 := hid (show k ≤ 300 by omega)
  go_enter Try.func8, Try.ntmps8
  go_wp2_with (at_builtin; go_loud (refine wpList_append_row _ rfl (.tmp 25) (.tmp 26) 22 3 _ 1 8 rfl Try.underlying22 infoN rfl (by decide) (by decide) w.heap.size _ 0 [] rfl (own0 w 3 1) ao n cap (vals l) rfl (by rw [len_vals, HH.out.len]; simp) HH.out.nil (HH.out.row.below (alloc_below w _)) (vals_one l) (by have := HS.out; omega) (alloc_below w _).size ?_; intro ao1 cap1 w1 own1 grow1; apply Hid.out))
  have HM1 := hid (app_mine own1)
  have HB1 := hid (app_below grow1)
  have HLL := hid HH.out.len
  clear own1 grow1 HH
  unfold Hid
  go_wp2_with fail
  refine (start_any who b ao1 n cap1 l _ HM1.out.has (by have := HS.out; omega)).mono ?_
  rintro e w2 ⟨ao2, cap2, rfl, m2, b2⟩
  by_cases hE : startE who l = 0
  · rw [single_start hE] at m2
    rw [single_start hE, hE]
    simp only at m2 ⊢
    have HNL : Hid ((srt l).length ≤ 64) := by have := len_srt l; have := HLL.out; have := HS.out; show _ ≤ _; omega
    generalize hL : srt l = L at m2 HNL ⊢
    clear hL
    obtain ⟨N, hN⟩ : ∃ N, L.length = N := ⟨_, rfl⟩
    rw [hN] at m2 HNL ⊢
    have HN := hid hN
    have HM2 := hid m2.has
    have HB2 := hid (q_trans HB1.out b2)
    clear m2 b2 HM1 HB1 hN
    go_wp2_with fail
    have HA := hid (at_new (who := who) (p := phU N 0) (a := 0) (t := 0) (b := b) HM2.out HB2.out)
    generalize w2.alloc _ = W at HA ⊢
    refine (num_any 0 _).mono ?_
    rintro e w3 ⟨rfl, hw⟩
    rw [hw]
    clear hw w3 HM2 HB2
    go_wp2_with fail
    have hN64 : N ≤ 64 := HNL.out
    have hk300 : k ≤ 300 := HK3.out
    go_loopw [11] (fun i wr => ∃ (j cc : Nat) (xo : Option Addr) (p a t : Int), j ≤ k ∧ i = .int .i64 j ∧ Hid (Wt N p a t b j) ∧ Hid (At w wr w2.heap.size who p a t b xo N cc L)) (fun i _ => k - (intOf i).toNat)
    case atStart => exact ⟨0, cap2, ao2, _, _, _, Nat.zero_le _, rfl, wt_start N b, HA⟩
    case round =>
      obtain ⟨j, cc, xo, p, a, t, hj, rfl, HW, HJ⟩ := hrel
      by_cases hlt : j < k
      · have i1 : (0 : Int) ≤ (j : Int) := by omega
        have i2 : (j : Int) < (k : Int) := by omega
        obtain ⟨v, hv⟩ : ∃ v, m.getD j false = v := ⟨_, rfl⟩
        obtain ⟨xb, e, cv⟩ := (HK.out.below HJ.out.low).cell j hlt
        subst e
        rw [hv] at cv
        clear hv
        have CT := hid (fun W' H => take_any ⟨who, L, p, a, t, b⟩ v xo N cc W' H (by omega) (by have := HW.out.a0; have := HW.out.al; simp only; omega) (by have := HW.out.t0; have := HW.out.tl; simp only; omega))
        obtain ⟨c0, c1, c2, c3, c4, c5, cf⟩ := HJ.out.box
        have HCV := hid cv
        have cva : ∀ o, (wr.alloc o).cell? (xb.add j) = some (.bool v) := fun o => ((alloc_below wr o).cell (World.block_lt_of_cell? wr _ cv)).trans cv
        have lB : w2.heap.size < wr.heap.size := HJ.out.box.lt
        generalize hh : takeG ⟨who, L, p, a, t, b⟩ v = h at CT
        have HHW : Hid (h.w = who ∧ h.b = b) := by rw [← hh]; exact ⟨take_w _ _, take_b _ _⟩
        have HHH := hid hh
        clear hh
        go_wp2_with fail
        go_cut [12] from 35 to 130 (fun s12 wx => ∃ (D cap4 : Nat) (ao4 : Option Addr), s12 = .pointer (some ⟨D, 0, none⟩) ∧ Hid (Two w wx w2.heap.size D who p a t b xo N cc h.p h.a h.t ao4 cap4 L) ∧ Hid (Below wr.heap.size wr wx))
        case first =>
          go_region_with (go_at_call 16; refine (CT.out _ (by first | exact HJ.out.has | exact HJ.out.has.below (Below.refl _ wr).drew | exact HJ.out.has.below (alloc_below _ _) | exact (HJ.out.has.below (Below.refl _ wr).drew).below (alloc_below _ _))).mono ?_; rintro e w4 ⟨ao4, cap4, rfl, m4, b4⟩; rw [HHW.out.1, HHW.out.2]; have HB4 : Hid (Below wr.heap.size wr w4) := (by first | exact q_trans (Below.refl _ wr).drew b4 | exact q_trans (q_alloc (Below.refl _ wr).drew _) b4); (try (have HZ4 : Hid (InG w4 wr.heap.size 0 (.slice none 0 0) 0 0 0 false) := ((inG_new wr.drew 0 (.slice none 0 0) 0 0 0 false 25).below b4); obtain ⟨z0, z1, z2, z3, z4, z5, zf⟩ := HZ4.out)); have HM4 := hid m4; clear m4 b4)
          all_goals (try go_wp2_with fail)
          all_goals go_meet
          all_goals first
            | (have HT4 := hid (two_before (p' := h.p) (a' := h.a) (t' := h.t) HJ.out HZ4.out HB4.out (show Mine w4 (wr.heap.size + 1) ao4 N cap4 L by have := HM4.out; simpa using this)); exact ⟨_, _, _, rfl, HT4, HB4.out.trans ((kept_store w4 wr.heap.size who (.slice ao4 N cap4) h.p h.a h.t b).below wr.heap.size HB4.out.size (fun i e => by omega))⟩)
            | (have HT4 := hid (two_after (p' := h.p) (a' := h.a) (t' := h.t) HJ.out HB4.out HM4.out); exact ⟨_, _, _, rfl, HT4, q_trans HB4.out (alloc_below _ _)⟩)
        case rest =>
          obtain ⟨D, cap4, ao4, rfl, HT, HBc⟩ := hcut
          have HV := hid ((HBc.out.cell (World.block_lt_of_cell? wr _ HCV.out)).trans HCV.out)
          clear c0 c1 c2 c3 c4 c5 cf cv cva lB HCV HJ CT HBc HHW
          have hwt := HW.out
          obtain ⟨wa0, wal, wt0, wtl, wwt, wph⟩ := hwt
          rcases wph with ⟨rfl, h1⟩ | ⟨rfl, h1⟩ | ⟨rfl, h1⟩
          · obtain ⟨K, rfl⟩ : ∃ K : Nat, a = (K : Int) := ⟨a.toNat, by omega⟩
            have gN : (0 : Int) < (N : Int) := by omega
            have gN2 : 0 < N := by omega
            cases v with
            | true =>
              cases b with
              | true =>
                obtain ⟨rfl, -⟩ := wwt rfl
                rw [t_up HN.out.symm (by omega) h1] at HHH
                have HHH2 := HHH.out
                subst HHH2
                clear HHH
                simp only at HT
                obtain ⟨P, hP⟩ : ∃ P : Int, (if (K : Int) + 1 = (N : Int) then (2 : Int) else 1) = P := ⟨_, rfl⟩
                rw [hP] at HT
                have HP := hid hP
                clear hP
                obtain ⟨s0, s1, s2, s3, s4, s5, d0, d1, d2, d3, d4, d5, sv, -⟩ := sq_of HT.out HV.out
                have hS := sq_of HT.out HV.out
                go_wp2_with fail
                go_region_held3 (fun W => SQ w W w2.heap.size D who 1 (K : Int) 0 true xo N cc P ((K : Int) + 1) 0 ao4 cap4 L (xb.add j) true) (first | assumption | exact sq_keep (by assumption) (by assumption) | exact sq_drew (by assumption))
                  (first
                    | (go_at_call_of 21 (Value.slice ao4 N cap4); refine (held_k who _ _ _ _ ao4 N cap4 (K + 1) L _ (sq_two (by assumption)).h.has hN64 (by first | rfl | omega) (by omega)).mono ?_; rintro e w5 ⟨ao5, cap5, rfl, b5⟩)
                    | (go_at_call_of 21 (Value.slice xo N cc); refine (held_k who _ _ _ _ xo N cc K L _ (sq_two (by assumption)).g.has hN64 (by first | rfl | omega) (by omega)).mono ?_; rintro e w6 ⟨ao6, cap6, rfl, b6⟩))
                all_goals
                  clear s0 s1 s2 s3 s4 s5 d0 d1 d2 d3 d4 d5 sv
                  clear hS
                  have HT6 : Hid (Two w w6 w2.heap.size D who 1 (K : Int) 0 true xo N cc P ((K : Int) + 1) 0 ao4 cap4 L) := sq_two (xa := xb.add j) (v := true) (by assumption)
                  have HV : Hid (w6.cell? (xb.add j) = some (.bool true)) := sq_v (W := w6) (B := w2.heap.size) (D := D) (who := who) (p := 1) (a := (K : Int)) (t := 0) (b := true) (ao := xo) (n := N) (cap := cc) (p' := P) (a' := ((K : Int) + 1)) (t' := 0) (ao' := ao4) (cap' := cap4) (l := L) (w := w) (by assumption)
                  obtain ⟨s0, s1, s2, s3, s4, s5, d0, d1, d2, d3, d4, d5, sv, -⟩ := sq_of HT6.out HV.out
                  have hS := sq_of HT6.out HV.out
                  go_wp2_with fail
                  have wK1 : IntKind.i64.wrap ((K : Int) + 1) = (K : Int) + 1 := by rw [IntKind.wrap_i64]; omega
                  have wK0 : IntKind.i64.wrap (K : Int) = (K : Int) := by rw [IntKind.wrap_i64]; omega
                  go_region_held3 (fun W => SQ w W w2.heap.size D who 1 (K : Int) 0 true xo N cc P ((K : Int) + 1) 0 ao4 cap4 L (xb.add j) true) (first | assumption | exact sq_keep (by assumption) (by assumption) | exact sq_drew (by assumption))
                    (first
                      | (go_at_call_of 21 (Value.slice ao4 N cap4); refine (held_k who _ _ _ _ ao4 N cap4 (K + 1) L _ (sq_two (by assumption)).h.has hN64 (by first | rfl | omega) (by omega)).mono ?_; rintro e w5b ⟨ao5, cap5, rfl, b5⟩)
                      | (go_at_call_of 21 (Value.slice xo N cc); refine (held_k who _ _ _ _ xo N cc K L _ (sq_two (by assumption)).g.has hN64 (by first | rfl | omega) (by omega)).mono ?_; rintro e w6b ⟨ao6, cap6, rfl, b6⟩))
                  all_goals
                    clear s0 s1 s2 s3 s4 s5 d0 d1 d2 d3 d4 d5 sv
                    clear hS
                    have HT7 : Hid (Two w w6b w2.heap.size D who 1 (K : Int) 0 true xo N cc P ((K : Int) + 1) 0 ao4 cap4 L) := sq_two (xa := xb.add j) (v := true) (by assumption)
                    have HVb : Hid (w6b.cell? (xb.add j) = some (.bool true)) := sq_v (W := w6b) (B := w2.heap.size) (D := D) (who := who) (p := 1) (a := (K : Int)) (t := 0) (b := true) (ao := xo) (n := N) (cap := cc) (p' := P) (a' := ((K : Int) + 1)) (t' := 0) (ao' := ao4) (cap' := cap4) (l := L) (w := w) (by assumption)
                    obtain ⟨s0, s1, s2, s3, s4, s5, d0, d1, d2, d3, d4, d5, sv, -⟩ := sq_of HT7.out HVb.out
                    go_wp2_with fail
                    go_quiet (fail)
                    have HT9 := hid (HT7.out.below (q_drewN (Below.refl _ w6b) nq))
                    generalize w6b.drewN nq = W9 at HT9 ⊢
                    obtain ⟨x0, x1, x2, x3, x4, x5, xf⟩ := HT9.out.g.box
                    obtain ⟨y0, y1, y2, y3, y4, y5, yf⟩ := HT9.out.h.box
                    have HS9 := hid HT9.out.shut
                    have HW9 : Hid (Wt N P ((K : Int) + 1) 0 true (j + 1)) := by rw [← HP.out]; refine ⟨by omega, by omega, by omega, by omega, fun _ => ⟨rfl, by split <;> decide⟩, by split <;> omega⟩
                    clear HT9
                    go_wp2_with fail
                    go_roundw
                    case rel => exact ⟨j + 1, cap4, ao4, _, _, _, by omega, by go_num, HW9, HS9⟩
                    case measure => simp [intOf]; omega
              | false =>
                rw [t_up HN.out.symm (by omega) h1] at HHH
                have HHH2 := HHH.out
                subst HHH2
                clear HHH
                simp only at HT
                obtain ⟨P, hP⟩ : ∃ P : Int, (if (K : Int) + 1 = (N : Int) then (2 : Int) else 1) = P := ⟨_, rfl⟩
                rw [hP] at HT
                have HP := hid hP
                clear hP
                obtain ⟨s0, s1, s2, s3, s4, s5, d0, d1, d2, d3, d4, d5, sv, -⟩ := sq_of HT.out HV.out
                go_wp2_with fail
                go_quiet (fail)
                have HT5 := hid (HT.out.below (q_drewN (Below.refl _ wc) nq))
                have HV5 : Hid ((wc.drewN nq).cell? (xb.add j) = some (.bool true)) := HV.out
                generalize wc.drewN nq = W5 at HT5 HV5 ⊢
                clear s0 s1 s2 s3 s4 s5 d0 d1 d2 d3 d4 d5 sv
                obtain ⟨s0, s1, s2, s3, s4, s5, d0, d1, d2, d3, d4, d5, sv, -⟩ := sq_of HT5.out HV5.out
                have hS := sq_of HT5.out HV5.out
                go_wp2_with fail
                have wK1 : IntKind.i64.wrap ((K : Int) + 1) = (K : Int) + 1 := by rw [IntKind.wrap_i64]; omega
                have wK0 : IntKind.i64.wrap (K : Int) = (K : Int) := by rw [IntKind.wrap_i64]; omega
                go_region_held3 (fun W => SQ w W w2.heap.size D who 1 (K : Int) t false xo N cc P ((K : Int) + 1) t ao4 cap4 L (xb.add j) true) (first | assumption | exact sq_keep (by assumption) (by assumption) | exact sq_drew (by assumption))
                  (first
                    | (go_at_call_of 21 (Value.slice ao4 N cap4); refine (held_k who _ _ _ _ ao4 N cap4 (K + 1) L _ (sq_two (by assumption)).h.has hN64 (by first | rfl | omega) (by omega)).mono ?_; rintro e w5b ⟨ao5, cap5, rfl, b5⟩)
                    | (go_at_call_of 21 (Value.slice xo N cc); refine (held_k who _ _ _ _ xo N cc K L _ (sq_two (by assumption)).g.has hN64 (by first | rfl | omega) (by omega)).mono ?_; rintro e w6b ⟨ao6, cap6, rfl, b6⟩))
                all_goals
                  clear s0 s1 s2 s3 s4 s5 d0 d1 d2 d3 d4 d5 sv
                  clear hS
                  have HT7 : Hid (Two w w6b w2.heap.size D who 1 (K : Int) t false xo N cc P ((K : Int) + 1) t ao4 cap4 L) := sq_two (xa := xb.add j) (v := true) (by assumption)
                  have HVb : Hid (w6b.cell? (xb.add j) = some (.bool true)) := sq_v (W := w6b) (B := w2.heap.size) (D := D) (who := who) (p := 1) (a := (K : Int)) (t := t) (b := false) (ao := xo) (n := N) (cap := cc) (p' := P) (a' := ((K : Int) + 1)) (t' := t) (ao' := ao4) (cap' := cap4) (l := L) (w := w) (by assumption)
                  obtain ⟨s0, s1, s2, s3, s4, s5, d0, d1, d2, d3, d4, d5, sv, -⟩ := sq_of HT7.out HVb.out
                  go_wp2_with fail
                  go_quiet (fail)
                  have HT9 := hid (HT7.out.below (q_drewN (Below.refl _ w6b) nq))
                  generalize w6b.drewN nq = W9 at HT9 ⊢
                  obtain ⟨x0, x1, x2, x3, x4, x5, xf⟩ := HT9.out.g.box
                  obtain ⟨y0, y1, y2, y3, y4, y5, yf⟩ := HT9.out.h.box
                  have HS9 := hid HT9.out.shut
                  have HW9 : Hid (Wt N P ((K : Int) + 1) t false (j + 1)) := by rw [← HP.out]; refine ⟨by omega, by omega, by omega, by omega, (fun e => by cases e), by split <;> omega⟩
                  clear HT9
                  go_wp2_with fail
                  go_roundw
                  case rel => exact ⟨j + 1, cap4, ao4, _, _, _, by omega, by go_num, HW9, HS9⟩
                  case measure => simp [intOf]; omega
            | false =>
              cases b with
              | true =>
                obtain ⟨rfl, -⟩ := wwt rfl
                rw [t_wait HN.out.symm (by omega) h1] at HHH
                have HHH2 := HHH.out
                subst HHH2
                clear HHH
                simp only at HT
                obtain ⟨s0, s1, s2, s3, s4, s5, d0, d1, d2, d3, d4, d5, sv, -⟩ := sq_of HT.out HV.out
                have hS := sq_of HT.out HV.out
                go_wp2_with fail
                go_region_held3 (fun W => SQ w W w2.heap.size D who 1 (K : Int) 0 true xo N cc 1 (K : Int) 0 ao4 cap4 L (xb.add j) false) (first | assumption | exact sq_keep (by assumption) (by assumption) | exact sq_drew (by assumption))
                  (first
                    | (go_at_call_of 21 (Value.slice ao4 N cap4); refine (held_k who _ _ _ _ ao4 N cap4 K L _ (sq_two (by assumption)).h.has hN64 (by first | rfl | omega) (by omega)).mono ?_; rintro e w5 ⟨ao5, cap5, rfl, b5⟩)
                    | (go_at_call_of 21 (Value.slice xo N cc); refine (held_k who _ _ _ _ xo N cc K L _ (sq_two (by assumption)).g.has hN64 (by first | rfl | omega) (by omega)).mono ?_; rintro e w6 ⟨ao6, cap6, rfl, b6⟩))
                all_goals
                  clear s0 s1 s2 s3 s4 s5 d0 d1 d2 d3 d4 d5 sv
                  clear hS
                  have HT6 : Hid (Two w w6 w2.heap.size D who 1 (K : Int) 0 true xo N cc 1 (K : Int) 0 ao4 cap4 L) := sq_two (xa := xb.add j) (v := false) (by assumption)
                  have HV : Hid (w6.cell? (xb.add j) = some (.bool false)) := sq_v (W := w6) (B := w2.heap.size) (D := D) (who := who) (p := 1) (a := (K : Int)) (t := 0) (b := true) (ao := xo) (n := N) (cap := cc) (p' := 1) (a' := (K : Int)) (t' := 0) (ao' := ao4) (cap' := cap4) (l := L) (w := w) (by assumption)
                  obtain ⟨s0, s1, s2, s3, s4, s5, d0, d1, d2, d3, d4, d5, sv, -⟩ := sq_of HT6.out HV.out
                  go_wp2_with fail
                  go_quiet (fail)
                  have HT5 := hid (HT6.out.below (q_drewN (Below.refl _ w6) nq))
                  generalize w6.drewN nq = W5 at HT5 ⊢
                  clear s0 s1 s2 s3 s4 s5 d0 d1 d2 d3 d4 d5 sv
                  obtain ⟨s0, s1, s2, s3, s4, s5, sf⟩ := HT5.out.g.box
                  go_wp2_with fail
                  go_quiet (fail)
                  have HT9 := hid (HT5.out.below (q_drewN (Below.refl _ W5) nq))
                  generalize W5.drewN nq = W9 at HT9 ⊢
                  obtain ⟨x0, x1, x2, x3, x4, x5, xf⟩ := HT9.out.g.box
                  obtain ⟨y0, y1, y2, y3, y4, y5, yf⟩ := HT9.out.h.box
                  have HS9 := hid HT9.out.shut
                  have HW9 : Hid (Wt N 1 (K : Int) 0 true (j + 1)) := ⟨by omega, by omega, by omega, by omega, fun _ => ⟨rfl, by decide⟩, by omega⟩
                  clear HT9
                  go_wp2_with fail
                  go_roundw
                  case rel => exact ⟨j + 1, cap4, ao4, _, _, _, by omega, by go_num, HW9, HS9⟩
                  case measure => simp [intOf]; omega
              | false =>
                by_cases hK0 : (K : Int) = 0
                · rw [hK0] at HT HHH h1
                  rw [t_ref HN.out.symm (by omega) h1] at HHH
                  have HHH2 := HHH.out
                  subst HHH2
                  clear HHH
                  simp only at HT
                  rw [if_pos trivial] at HT
                  have gN : (0 : Int) < (N : Int) := by omega
                  have gN2 : 0 < N := by omega
                  obtain ⟨s0, s1, s2, s3, s4, s5, d0, d1, d2, d3, d4, d5, sv, -⟩ := sq_of HT.out HV.out
                  go_wp2_with fail
                  go_quiet (fail)
                  have HT5 := hid (HT.out.below (q_drewN (Below.refl _ wc) nq))
                  have HV5 : Hid ((wc.drewN nq).cell? (xb.add j) = some (.bool false)) := HV.out
                  generalize wc.drewN nq = W5 at HT5 HV5 ⊢
                  clear s0 s1 s2 s3 s4 s5 d0 d1 d2 d3 d4 d5 sv
                  obtain ⟨s0, s1, s2, s3, s4, s5, d0, d1, d2, d3, d4, d5, sv, -⟩ := sq_of HT5.out HV5.out
                  go_wp2_with fail
                  go_quiet (fail)
                  have HT6 := hid (HT5.out.below (q_drewN (Below.refl _ W5) nq))
                  generalize W5.drewN nq = W6 at HT6 ⊢
                  clear s0 s1 s2 s3 s4 s5 d0 d1 d2 d3 d4 d5 sv
                  obtain ⟨s0, s1, s2, s3, s4, s5, sf⟩ := HT6.out.g.box
                  go_wp2_with fail
                  go_quiet (fail)
                  have HT9 := hid (HT6.out.below (q_drewN (Below.refl _ W6) nq))
                  generalize W6.drewN nq = W9 at HT9 ⊢
                  obtain ⟨x0, x1, x2, x3, x4, x5, xf⟩ := HT9.out.g.box
                  obtain ⟨y0, y1, y2, y3, y4, y5, yf⟩ := HT9.out.h.box
                  have HS9 := hid HT9.out.shut
                  have HW9 : Hid (Wt N 1 0 (t + 1) false (j + 1)) := ⟨by omega, by omega, by omega, by omega, (fun e => by cases e), by omega⟩
                  clear HT9
                  go_wp2_with fail
                  go_roundw
                  case rel => exact ⟨j + 1, cap4, ao4, _, _, _, by omega, by go_num, HW9, HS9⟩
                  case measure => simp [intOf]; omega
                · skip
                  rw [t_ref HN.out.symm (by omega) h1] at HHH
                  have HHH2 := HHH.out
                  subst HHH2
                  clear HHH
                  simp only at HT
                  rw [if_neg hK0] at HT
                  have g0 : (0 : Int) < (K : Int) := by omega
                  have g1 : 0 < K := by omega
                  have gN : (0 : Int) < (N : Int) := by omega
                  have gN2 : 0 < N := by omega
                  obtain ⟨s0, s1, s2, s3, s4, s5, d0, d1, d2, d3, d4, d5, sv, -⟩ := sq_of HT.out HV.out
                  go_wp2_with fail
                  go_quiet (fail)
                  have HT5 := hid (HT.out.below (q_drewN (Below.refl _ wc) nq))
                  have HV5 : Hid ((wc.drewN nq).cell? (xb.add j) = some (.bool false)) := HV.out
                  generalize wc.drewN nq = W5 at HT5 HV5 ⊢
                  clear s0 s1 s2 s3 s4 s5 d0 d1 d2 d3 d4 d5 sv
                  obtain ⟨s0, s1, s2, s3, s4, s5, d0, d1, d2, d3, d4, d5, sv, -⟩ := sq_of HT5.out HV5.out
                  go_wp2_with fail
                  go_quiet (fail)
                  have HT6 := hid (HT5.out.below (q_drewN (Below.refl _ W5) nq))
                  generalize W5.drewN nq = W6 at HT6 ⊢
                  clear s0 s1 s2 s3 s4 s5 d0 d1 d2 d3 d4 d5 sv
                  obtain ⟨s0, s1, s2, s3, s4, s5, sf⟩ := HT6.out.g.box
                  go_wp2_with fail
                  go_quiet (fail)
                  have HT9 := hid (HT6.out.below (q_drewN (Below.refl _ W6) nq))
                  generalize W6.drewN nq = W9 at HT9 ⊢
                  obtain ⟨x0, x1, x2, x3, x4, x5, xf⟩ := HT9.out.g.box
                  obtain ⟨y0, y1, y2, y3, y4, y5, yf⟩ := HT9.out.h.box
                  have HS9 := hid HT9.out.shut
                  have HW9 : Hid (Wt N 3 (K : Int) (t + 1) false (j + 1)) := ⟨by omega, by omega, by omega, by omega, (fun e => by cases e), by omega⟩
                  clear HT9
                  go_wp2_with fail
                  go_roundw
                  case rel => exact ⟨j + 1, cap4, ao4, _, _, _, by omega, by go_num, HW9, HS9⟩
                  case measure => simp [intOf]; omega
          · skip
            subst h1
            rw [t_have] at HHH
            have HHH2 := HHH.out
            subst HHH2
            clear HHH
            simp only at HT
            obtain ⟨s0, s1, s2, s3, s4, s5, d0, d1, d2, d3, d4, d5, sv, -⟩ := sq_of HT.out HV.out
            go_wp2_with fail
            go_quiet (fail)
            have HT9 := hid (HT.out.below (q_drewN (Below.refl _ wc) nq))
            generalize wc.drewN nq = W9 at HT9 ⊢
            obtain ⟨x0, x1, x2, x3, x4, x5, xf⟩ := HT9.out.g.box
            obtain ⟨y0, y1, y2, y3, y4, y5, yf⟩ := HT9.out.h.box
            have HS9 := hid HT9.out.shut
            have HW9 : Hid (Wt N 2 (N : Int) t b (j + 1)) := ⟨wa0, wal, wt0, by omega, fun e => wwt e, .inr (.inl ⟨rfl, rfl⟩)⟩
            clear HT9
            go_wp2_with fail
            go_roundw
            case rel => exact ⟨j + 1, cap4, ao4, _, _, _, by omega, by go_num, HW9, HS9⟩
            case measure => simp [intOf]; omega
          · obtain ⟨K, rfl⟩ : ∃ K : Nat, a = (K : Int) + 1 := ⟨(a - 1).toNat, by omega⟩
            cases b with
            | true => exact absurd rfl (wwt rfl).2
            | false =>
              rw [t_back HN.out.symm (by omega) (by omega)] at HHH
              have HHH2 := HHH.out
              subst HHH2
              clear HHH
              simp only at HT
              rw [show (K : Int) + 1 - 1 = (K : Int) by omega] at HT
              obtain ⟨P, hP⟩ : ∃ P : Int, (if (K : Int) = 0 then (1 : Int) else 3) = P := ⟨_, rfl⟩
              rw [hP] at HT
              have HP := hid hP
              clear hP
              obtain ⟨s0, s1, s2, s3, s4, s5, d0, d1, d2, d3, d4, d5, sv, -⟩ := sq_of HT.out HV.out
              have hS := sq_of HT.out HV.out
              go_wp2_with fail
              have wK1 : IntKind.i64.wrap ((K : Int) + 1) = (K : Int) + 1 := by rw [IntKind.wrap_i64]; omega
              have wK0 : IntKind.i64.wrap (K : Int) = (K : Int) := by rw [IntKind.wrap_i64]; omega
              go_region_held3 (fun W => SQ w W w2.heap.size D who 3 ((K : Int) + 1) t false xo N cc P (K : Int) t ao4 cap4 L (xb.add j) v) (first | assumption | exact sq_keep (by assumption) (by assumption) | exact sq_drew (by assumption))
                (first
                  | (go_at_call_of 21 (Value.slice ao4 N cap4); refine (held_k who _ _ _ _ ao4 N cap4 K L _ (sq_two (by assumption)).h.has hN64 (by first | rfl | omega) (by omega)).mono ?_; rintro e w5b ⟨ao5, cap5, rfl, b5⟩)
                  | (go_at_call_of 21 (Value.slice xo N cc); refine (held_k who _ _ _ _ xo N cc (K + 1) L _ (sq_two (by assumption)).g.has hN64 (by first | rfl | omega) (by omega)).mono ?_; rintro e w6b ⟨ao6, cap6, rfl, b6⟩))
              all_goals
                clear s0 s1 s2 s3 s4 s5 d0 d1 d2 d3 d4 d5 sv
                clear hS
                have HT7 : Hid (Two w w6b w2.heap.size D who 3 ((K : Int) + 1) t false xo N cc P (K : Int) t ao4 cap4 L) := sq_two (xa := xb.add j) (v := v) (by assumption)
                have HVb : Hid (w6b.cell? (xb.add j) = some (.bool v)) := sq_v (W := w6b) (B := w2.heap.size) (D := D) (who := who) (p := 3) (a := ((K : Int) + 1)) (t := t) (b := false) (ao := xo) (n := N) (cap := cc) (p' := P) (a' := (K : Int)) (t' := t) (ao' := ao4) (cap' := cap4) (l := L) (w := w) (by assumption)
                have HT9 := HT7
                obtain ⟨x0, x1, x2, x3, x4, x5, xf⟩ := HT9.out.g.box
                obtain ⟨y0, y1, y2, y3, y4, y5, yf⟩ := HT9.out.h.box
                have HS9 := hid HT9.out.shut
                have HW9 : Hid (Wt N P (K : Int) t false (j + 1)) := by rw [← HP.out]; refine ⟨by omega, by omega, by omega, by omega, (fun e => by cases e), by split <;> omega⟩
                clear HT9
                go_wp2_with fail
                go_roundw
                case rel => exact ⟨j + 1, cap4, ao4, _, _, _, by omega, by go_num, HW9, HS9⟩
                case measure => simp [intOf]; omega
      · have HJ1 := HJ
        clear HJ HA
        go_wp2_with fail
        refine (live_any _).mono ?_
        rintro e w8 ⟨rfl, b8⟩
        have HB8 := hid (q_trans HJ1.out.low b8)
        clear b8
        go_wp2_with fail
        go_ret
        exact ⟨rfl, HB8.out⟩
  · rw [startG_no hE]
    rw [startG_no hE] at m2
    have hE' : (startE who l != 0) = true := by simpa using hE
    have HB2 := hid (q_trans HB1.out b2)
    generalize startE who l = E at hE hE' ⊢
    clear m2 b2 HM1 HB1 hE
    go_wp2_with fail
    refine (num_any E _).mono ?_
    rintro e w3 ⟨rfl, hw⟩
    rw [hw]
    clear hw w3
    go_wp2_with fail
    refine (live_any _).mono ?_
    rintro e w3 ⟨rfl, b3⟩
    have HB3 := hid (q_trans (q_alloc HB2.out _) b3)
    clear b3
    go_wp2_with fail
    go_ret
    exact ⟨rfl, HB3.out⟩
end Go.Proofs.Ytaihabkacjbfjaa.Gr
