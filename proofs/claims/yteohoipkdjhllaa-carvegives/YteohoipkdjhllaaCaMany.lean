/- What Many does. -/
import Derived.Test.YteohoipkdjhllaaCaCarve
namespace Go.Proofs.Yteohoipkdjhllaa.Ca
open Go.RowKit

theorem Bx.upto {w w' : World} {B b : Nat} {x : X} (h : Bx w b x) (k : Below B w w') (hb : b < B) : Bx w' b x :=
  ⟨(k.cell (p := ⟨b, 0, none⟩) hb).trans h.c0, (k.cell (p := ⟨b, 1, none⟩) hb).trans h.c1, (k.frozen (p := ⟨b, 0, none⟩) hb).trans h.f0, (k.frozen (p := ⟨b, 1, none⟩) hb).trans h.f1⟩
theorem is_carve {x y : X} {v u s e : Int} {w : World} (h1 : cvX x v s = y) (h2 : cvW x v s = u) (h3 : cvE x v s = e) : Calls Try.prog 21 #[(.agg #[.int .i64 x.1, .int .i64 x.2]), .int .i64 v, .int .i64 s] w fun r w' => r = .returned (.tuple #[(.agg #[.int .i64 y.1, .int .i64 y.2]), .int .i64 u, .int .i64 e]) ∧ Below w.heap.size w w' := by
  subst h1 h2 h3
  exact carve_any x v s w
theorem is_rcarve {x y : X} {v u s e : Int} {w : World} (h1 : cvX x v s = y) (h2 : cvW x v s = u) (h3 : cvE x v s = e) : Calls Try.prog 22 #[(.agg #[.int .i64 x.1, .int .i64 x.2]), .int .i64 v, .int .i64 s] w fun r w' => r = .returned (.tuple #[(.agg #[.int .i64 y.1, .int .i64 y.2]), .int .i64 u, .int .i64 e]) ∧ Below w.heap.size w w' := by
  subst h1 h2 h3
  exact rcarve_any x v s w
theorem take_snoc {l : List Int} {k : Nat} (h : k < l.length) : l.take (k + 1) = l.take k ++ [l.getD k 0] := by
  rw [List.take_add_one]
  simp [List.getD, h]
theorem run_yes {x : X} {v u : Int} {l : List Int} {k : Nat} {m : List X} (hk : k < l.length) (h : run x v (l.take k) = (m, u, 0)) (hc : cvB x u (l.getD k 0) = true) : run x v (l.take (k + 1)) = (m ++ [cvX x u (l.getD k 0)], cvW x u (l.getD k 0), 0) := by
  rw [take_snoc hk, run_snoc, h]
  generalize l.getD k 0 = s at hc ⊢
  simp [stp, hc]
theorem run_no {x : X} {v u : Int} {l : List Int} {k : Nat} {m : List X} (hk : k < l.length) (h : run x v (l.take k) = (m, u, 0)) (hc : cvB x u (l.getD k 0) = false) : mnE x v l = cvE x u (l.getD k 0) ∧ mnE x v l ≠ 0 := by
  have hne : cvE x u (l.getD k 0) ≠ 0 := by rw [Ne, cvE_zero, hc]; simp
  have : run x v (l.take (k + 1)) = (m, u, cvE x u (l.getD k 0)) := by
    rw [take_snoc hk, run_snoc, h]
    generalize l.getD k 0 = s at hc ⊢
    simp [stp, hc]
  have e : mnE x v (l.take (k + 1) ++ l.drop (k + 1)) = mnE x v (l.take (k + 1)) := run_err _ (by unfold mnE; rw [this]; exact hne)
  rw [List.take_append_drop] at e
  unfold mnE at e ⊢
  rw [e, this]
  exact ⟨rfl, hne⟩
/-- What Many has done at the k-th size. -/
structure MR (w wr : World) (x : X) (v : Int) (l : List Int) (k : Nat) (ao : Option Addr) (N cap : Nat) (u : Int) (m : List X) : Prop where
  low : Below w.heap.size w wr
  box : Bx wr w.heap.size x
  run : run x v (l.take k) = (m, u, 0)
  mine : MineX wr (w.heap.size + 1) ao N cap m
  small : N ≤ k
theorem mr_start (w : World) (x : X) (v : Int) (l : List Int) : MR w (w.alloc (.cells #[.int .i64 x.1, .int .i64 x.2] 23)) x v l 0 none 0 0 v [] :=
  ⟨alloc_below _ _, bx_new w x _, rfl, mineX_nil _ _, Nat.le_refl _⟩
theorem MR.step {w wr W w3 : World} {x y : X} {v u u' s : Int} {l : List Int} {k : Nat} {ao ao3 : Option Addr} {N cap cap3 : Nat} {m : List X} (h : MR w wr x v l k ao N cap u m) (bw : Below wr.heap.size wr W) (hk : k < l.length) (hs : l.getD k 0 = s) (hc : cvB x u s = true) (hy : cvX x u s = y) (hu : cvW x u s = u')
    (own : w3.ownsRow (w.heap.size + 1) 23 2 (.slice ao3 (N + 1) cap3) (N + 1) (exts m ++ exts [y])) (grow : W.grownBy w3 (Value.ownBlock (.slice ao N cap))) : MR w w3 x v l (k + 1) ao3 (N + 1) cap3 u' (m ++ [y]) := by
  have hs' : w.heap.size + 1 ≤ W.heap.size := Nat.le_trans h.box.lt bw.size
  obtain ⟨m3, l3⟩ := MineX.append (h.mine.below bw) hs' (k := [y]) rfl own grow
  refine ⟨(q_trans h.low bw).trans (l3.mono (Nat.le_succ _)), (h.box.below bw).upto l3 (Nat.lt_succ_self _), ?_, m3, Nat.succ_le_succ h.small⟩
  subst hs hy hu
  exact run_yes hk h.run hc
set_option maxRecDepth 100000 in
set_option maxHeartbeats 2000000 in
/-- MANY: ONE BEHIND THE OTHER. -/
theorem many_any (x : X) (v : Int) (ao : Option Addr) (n cap : Nat) (l : List Int) (w : World) (hs : n ≤ 1000) (HH : Hid (Has w ao n cap l)) :
    Calls Try.prog 23 #[(.agg #[.int .i64 x.1, .int .i64 x.2]), .int .i64 v, .slice ao n cap] w fun e w' => ∃ ao' cap', e = .returned (.tuple #[.slice ao' (mnL x v l).length cap', .int .i64 (mnW x v l), .int .i64 (mnE x v l)]) ∧ HasX w' ao' (mnL x v l).length cap' (mnL x v l) ∧ Below w.heap.size w w' := by
  go_enter Try.func23, Try.ntmps23
  go_wp2_with fail
  go_loopw [9, 10, 19] (fun s9 s10 s19 wr => ∃ (k N cap1 : Nat) (ao1 : Option Addr) (u : Int) (m : List X), k ≤ n ∧ s9 = .slice ao1 N cap1 ∧ s10 = .int .i64 u ∧ s19 = .int .i64 k ∧ Hid (MR w wr x v l k ao1 N cap1 u m)) (fun _ _ i _ => n - (intOf i).toNat)
  case atStart => exact ⟨0, 0, 0, none, v, [], Nat.zero_le _, rfl, rfl, rfl, mr_start w x v l⟩
  case round =>
    obtain ⟨k, N, cap1, ao1, u, m, hk, rfl, rfl, rfl, HM⟩ := hrel
    by_cases hlt : k < n
    · have i1 : (0 : Int) ≤ (k : Int) := by omega
      have i2 : (k : Int) < (n : Int) := by omega
      have HN := hid HH.out.len
      obtain ⟨a, rfl, ca⟩ := (HH.out.below HM.out.low).cell k hlt
      obtain ⟨s, hs⟩ : ∃ s, l.getD k 0 = s := ⟨_, rfl⟩
      rw [hs] at ca
      have HS := hid hs
      clear hs
      obtain ⟨p0, p1, p2, p3⟩ := HM.out.box
      cases hc : cvB x u s with
      | false =>
        have HE := hid (run_no (by have := HN.out; omega) HM.out.run (by rw [HS.out]; exact hc))
        rw [HS.out] at HE
        obtain ⟨e0, he0⟩ : ∃ e0, cvE x u s = e0 := ⟨_, rfl⟩
        obtain ⟨y, hy⟩ : ∃ y, cvX x u s = y := ⟨_, rfl⟩
        obtain ⟨u', hu⟩ : ∃ u', cvW x u s = u' := ⟨_, rfl⟩
        have hb : (e0 != 0) = true := by have := HE.out; rw [← he0, ← this.1]; simp [this.2]
        rw [he0] at HE
        have HC := hid (fun W => is_carve (w := W) hy hu he0)
        clear hc hy hu he0
        go_wp2_with fail
        refine (HC.out _).mono ?_
        rintro e w2 ⟨rfl, b2⟩
        have B2 := hid (q_trans HM.out.low b2)
        clear b2
        go_wp2_with fail
        have e1 := (mn_no HE.out.2).1
        have e2 := (mn_no HE.out.2).2
        refine bodyPost_ret (v := .tuple #[.slice none 0 0, .int .i64 v, .int .i64 e0]) (by simp [results, Try.results23, go_sem]) rfl ⟨none, 0, by rw [e1, e2, HE.out.1]; rfl, by rw [e1]; exact ⟨rfl, fun _ => rfl, Nat.le_refl _, row_nil _ _⟩, q_alloc B2.out _⟩
      | true =>
        obtain ⟨y, hy⟩ : ∃ y, cvX x u s = y := ⟨_, rfl⟩
        obtain ⟨u', hu⟩ : ∃ u', cvW x u s = u' := ⟨_, rfl⟩
        have HC := hid (fun W => is_carve (w := W) hy hu (cvE_zero.2 hc))
        have HB := hid hc
        have HY := hid hy
        have HU := hid hu
        clear hc hy hu
        go_wp2_with fail
        refine (HC.out _).mono ?_
        rintro e w2 ⟨rfl, b2⟩
        have B2 := hid b2
        clear b2 p0 p1 p2 p3
        have ho := own_below (own_below (own_below HM.out.mine.2 B2.out) (alloc_below w2 (.cells #[.int .i64 y.1, .int .i64 y.2] 23))) (alloc_below _ (.cells #[.int .i64 y.1, .int .i64 y.2] 23))
        have HO := hid ho
        have hr := one_ext (w2.alloc (.cells #[.int .i64 y.1, .int .i64 y.2] 23)) y 23
        rw [show (w2.alloc (.cells #[.int .i64 y.1, .int .i64 y.2] 23)).heap.size = w2.heap.size + 1 by simp] at hr
        have HRw := hid hr
        have HZ : Hid (w.heap.size + 1 ≤ ((w2.alloc (.cells #[.int .i64 y.1, .int .i64 y.2] 23)).alloc (.cells #[.int .i64 y.1, .int .i64 y.2] 23)).heap.size) := Nat.le_trans HM.out.box.lt (q_alloc (q_alloc B2.out _) _).size
        have HSm : Hid (N ≤ 1000) := Nat.le_trans HM.out.small (by omega)
        clear ho hr
        go_wp2_with (at_builtin; go_loud (refine wpList_append_row _ rfl (.tmp 35) (.tmp 37) 37 23 _ 2 16 rfl Try.underlying37 infoX rfl (by decide) (by decide) (w.heap.size + 1) _ N (exts m) rfl HO.out _ 1 1 (exts [y]) rfl rfl (fun h => by cases h) HRw.out (exts_one _) (by have := HSm.out; omega) HZ.out ?_; intro ao3 cap3 w3 own3 grow3; apply Hid.out))
        have HM3 := hid (HM.out.step (q_alloc (q_alloc B2.out _) _) (by have := HN.out; omega) HS.out HB.out HY.out HU.out own3 grow3)
        clear own3 grow3 HO HRw HZ
        unfold Hid
        go_wp2_with fail
        go_roundw
        case rel => exact ⟨k + 1, N + 1, cap3, ao3, u', m ++ [y], by omega, rfl, rfl, by go_num, HM3⟩
        case measure => simp [intOf]; omega
    · have HL : Hid (l.take k = l) := List.take_of_length_le (by have := HH.out.len; omega)
      have hr := HM.out.run
      rw [HL.out] at hr
      have HE : Hid (mnE x v l = 0) := by unfold Hid mnE; rw [hr]
      have E1 : Hid (mnL x v l = m) := by unfold Hid; rw [(mn_yes HE.out).1, hr]
      have E2 : Hid (mnW x v l = u) := by unfold Hid; rw [(mn_yes HE.out).2, hr]
      have HN := hid HM.out.mine.1
      clear hr
      go_wp2_with fail
      refine bodyPost_ret (v := .tuple #[.slice ao1 N cap1, .int .i64 u, .int .i64 0]) (by simp [results, Try.results23, go_sem]) rfl ⟨ao1, cap1, by rw [E1.out, E2.out, HE.out, HN.out], by rw [E1.out, ← HN.out]; exact HM.out.mine.has, HM.out.low⟩
end Go.Proofs.Yteohoipkdjhllaa.Ca
