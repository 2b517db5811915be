/- What the document's Many does. -/
import Derived.Test.YteohoipkdjhllaaCaMany
import Derived.Deep.Cut
import Derived.Deep.CutRange
namespace Go.Proofs.Yteohoipkdjhllaa.Ca
open Go.RowKit

/-- What the row reads, while a box is laid and written. -/
abbrev SM (b : Nat) (x : X) (q : Addr) (s : Int) (w : World) : Prop := w.cell? ⟨b, 0, none⟩ = some (.int .i64 x.1) ∧ w.cell? ⟨b, 1, none⟩ = some (.int .i64 x.2) ∧ w.cell? q = some (.int .i64 s)
theorem sm_keep {b : Nat} {x : X} {q : Addr} {s : Int} {w w' : World} (hb : Below w.heap.size w w') (h : SM b x q s w) : SM b x q s w' :=
  ⟨(hb.cell (World.block_lt_of_cell? w _ h.1)).trans h.1, (hb.cell (World.block_lt_of_cell? w _ h.2.1)).trans h.2.1, (hb.cell (World.block_lt_of_cell? w _ h.2.2)).trans h.2.2⟩
theorem sm_alloc {b : Nat} {x : X} {q : Addr} {s : Int} {w : World} {o : Obj} (h : SM b x q s w) : SM b x q s (w.alloc o) := sm_keep (alloc_below _ _) h
theorem sm_drew {b : Nat} {x : X} {q : Addr} {s : Int} {w : World} (h : SM b x q s w) : SM b x q s w.drew := h
theorem sm_put {b d i : Nat} {x : X} {q : Addr} {s : Int} {w : World} {u : Value} (h : SM b x q s w) (h1 : b ≠ d) (h2 : q.block ≠ d) : SM b x q s (w.setCell ⟨d, i, none⟩ u) :=
  ⟨(World.cell?_setCell_other w _ _ u (by intro e; exact h1 (congrArg Addr.block e).symm)).trans h.1, (World.cell?_setCell_other w _ _ u (by intro e; exact h1 (congrArg Addr.block e).symm)).trans h.2.1, (World.cell?_setCell_other w _ _ u (by intro e; exact h2 (congrArg Addr.block e).symm)).trans h.2.2⟩
theorem sm_two {b d : Nat} {x : X} {q : Addr} {s : Int} {w : World} {u v : Value} (h : SM b x q s w) (h1 : b ≠ d) (h2 : q.block ≠ d) : SM b x q s ((w.setCell ⟨d, 0, none⟩ u).setCell ⟨d, 1, none⟩ v) := sm_put (sm_put h h1 h2) h1 h2
theorem bx_put {w : World} {c : Nat} {z y : X} (h : Bx w c z) : Bx ((w.setCell ⟨c, 0, none⟩ (.int .i64 y.1)).setCell ⟨c, 1, none⟩ (.int .i64 y.2)) c y := by
  refine ⟨?_, ?_, by rw [World.frozen?_setCell, World.frozen?_setCell]; exact h.f0, by rw [World.frozen?_setCell, World.frozen?_setCell]; exact h.f1⟩
  · rw [World.cell?_setCell_other _ _ _ _ (by intro e; exact absurd (congrArg Addr.off e) (by simp))]
    exact World.cell?_setCell_same' w _ _ (by rw [h.c0]; rfl)
  · refine World.cell?_setCell_same' _ _ _ ?_
    rw [World.cell?_setCell_other _ _ _ _ (by intro e; exact absurd (congrArg Addr.off e) (by simp)), h.c1]
    rfl
theorem bx_low {w W : World} {u v : Value} (h : Below w.heap.size w W) : Below w.heap.size w ((W.setCell ⟨w.heap.size, 0, none⟩ u).setCell ⟨w.heap.size, 1, none⟩ v) := q_set (q_set h (Nat.le_refl _) _) (Nat.le_refl _) _
set_option maxRecDepth 100000 in
set_option maxHeartbeats 2000000 in
/-- MANY: the document's. -/
theorem rmany_any (x : X) (v : Int) (ao : Option Addr) (n cap : Nat) (l : List Int) (w : World) (hs : n ≤ 1000) (HH : Hid (Has w ao n cap l)) :
    Calls Try.prog 24 #[(.agg #[.int .i64 x.1, .int .i64 x.2]), .int .i64 v, .slice ao n cap] w fun e w' => ∃ ao' cap', e = .returned (.tuple #[.slice ao' (mnL x v l).length cap', .int .i64 (mnW x v l), .int .i64 (mnE x v l)]) ∧ HasX w' ao' (mnL x v l).length cap' (mnL x v l) ∧ Below w.heap.size w w' := by
  go_enter Try.func24, Try.ntmps24
  go_wp2_with fail
  go_loopw [9, 10, 11] (fun s9 s10 s19 wr => ∃ (k N cap1 : Nat) (ao1 : Option Addr) (u : Int) (m : List X), k ≤ n ∧ s9 = .slice ao1 N cap1 ∧ s10 = .int .i64 u ∧ s19 = .int .i64 k ∧ Hid (MR w wr x v l k ao1 N cap1 u m)) (fun _ _ i _ => n - (intOf i).toNat)
  case atStart => exact ⟨0, 0, 0, none, v, [], Nat.zero_le _, rfl, rfl, rfl, mr_start w x v l⟩
  case round =>
    obtain ⟨k, N, cap1, ao1, u, m, hk, rfl, rfl, rfl, HM⟩ := hrel
    by_cases hlt : k < n
    · have i1 : (0 : Int) ≤ (k : Int) := by omega
      have i2 : (k : Int) < (n : Int) := by omega
      have HN := hid HH.out.len
      obtain ⟨a, rfl, ca⟩ := (HH.out.below HM.out.low).cell k hlt
      obtain ⟨s, hs⟩ : ∃ s, l.getD k 0 = s := ⟨_, rfl⟩
      rw [hs] at ca
      have HS := hid hs
      clear hs
      obtain ⟨p0, p1, p2, p3⟩ := HM.out.box
      cases hc : cvB x u s with
      | false =>
        have HE := hid (run_no (by have := HN.out; omega) HM.out.run (by rw [HS.out]; exact hc))
        rw [HS.out] at HE
        obtain ⟨e0, he0⟩ : ∃ e0, cvE x u s = e0 := ⟨_, rfl⟩
        obtain ⟨y, hy⟩ : ∃ y, cvX x u s = y := ⟨_, rfl⟩
        obtain ⟨u', hu⟩ : ∃ u', cvW x u s = u' := ⟨_, rfl⟩
        have hb : (e0 != 0) = true := by have := HE.out; rw [← he0, ← this.1]; simp [this.2]
        rw [he0] at HE
        have HC := hid (fun W => is_rcarve (w := W) hy hu he0)
        clear hc hy hu he0
        go_wp2_with fail
        have hS : SM w.heap.size x (a.add k) s wr := ⟨p0, p1, ca⟩
        have HNB : Hid (w.heap.size ≠ wr.heap.size ∧ (a.add k).block ≠ wr.heap.size) := ⟨Nat.ne_of_lt HM.out.box.lt, Nat.ne_of_lt (World.block_lt_of_cell? wr _ ca)⟩
        have hv := HNB.out.1
        go_cut [12, 13, 14] from 22 to 32 (fun s12 s13 s14 wx => ∃ b : Nat, s12 = .pointer (some ⟨b, 0, none⟩) ∧ s13 = .int .i64 u' ∧ s14 = .int .i64 e0 ∧ Hid (Bx wx b y) ∧ Hid (Below wr.heap.size wr wx))
        case first =>
          go_region_held3 (SM w.heap.size x (a.add k) s) (first | with_reducible assumption | with_reducible exact HS2.out | with_reducible exact sm_alloc HS2.out | with_reducible exact sm_two HS2.out HNB.out.1 HNB.out.2 | with_reducible exact sm_drew hS | with_reducible exact sm_alloc (sm_drew hS) | exact sm_alloc hS | fail)
            (first
              | (go_at_call 22; refine (HC.out _).mono ?_; rintro e w2 ⟨rfl, b⟩; have HB2 : Hid (Below wr.heap.size wr w2) := (by first | exact q_trans (Below.refl _ wr).drew b | exact q_trans (q_alloc (Below.refl _ wr).drew _) b | exact q_trans (q_alloc (Below.refl _ wr) _) b); have HS2 : Hid (SM w.heap.size x (a.add k) s w2) := (sm_keep HB2.out hS); (try (have HZ2 : Hid (Bx w2 wr.heap.size (0, 0)) := (by first | exact (bx_new wr (0, 0) 23).below b | exact (bx_new wr.drew (0, 0) 23).below b); obtain ⟨z0, z1, z2, z3⟩ := HZ2.out)))
              | fail)
          all_goals (try go_wp2_with fail)
          all_goals go_meet
          all_goals first
            | exact ⟨_, rfl, rfl, rfl, bx_new _ y _, q_alloc HB2.out _⟩
            | exact ⟨_, rfl, rfl, rfl, bx_put HZ2.out, bx_low HB2.out⟩
        case rest =>
          obtain ⟨c, rfl, rfl, rfl, HX, HBc⟩ := hcut
          obtain ⟨y0, y1, y2, y3⟩ := HX.out
          clear p0 p1 p2 p3 ca hv hS HNB
          have B2 := hid (q_trans HM.out.low HBc.out)
          go_wp2_with fail
          have e1 := (mn_no HE.out.2).1
          have e2 := (mn_no HE.out.2).2
          refine bodyPost_ret (v := .tuple #[.slice none 0 0, .int .i64 v, .int .i64 e0]) (by simp [results, Try.results24, go_sem]) rfl ⟨none, 0, by rw [e1, e2, HE.out.1]; rfl, by rw [e1]; exact ⟨rfl, fun _ => rfl, Nat.le_refl _, row_nil _ _⟩, B2.out⟩
      | true =>
        obtain ⟨y, hy⟩ : ∃ y, cvX x u s = y := ⟨_, rfl⟩
        obtain ⟨u', hu⟩ : ∃ u', cvW x u s = u' := ⟨_, rfl⟩
        have HC := hid (fun W => is_rcarve (w := W) hy hu (cvE_zero.2 hc))
        have HB := hid hc
        have HY := hid hy
        have HU := hid hu
        clear hc hy hu
        go_wp2_with fail
        have hS : SM w.heap.size x (a.add k) s wr := ⟨p0, p1, ca⟩
        have HNB : Hid (w.heap.size ≠ wr.heap.size ∧ (a.add k).block ≠ wr.heap.size) := ⟨Nat.ne_of_lt HM.out.box.lt, Nat.ne_of_lt (World.block_lt_of_cell? wr _ ca)⟩
        have hv := HNB.out.1
        go_cut [12, 13, 14] from 22 to 32 (fun s12 s13 s14 wx => ∃ b : Nat, s12 = .pointer (some ⟨b, 0, none⟩) ∧ s13 = .int .i64 u' ∧ s14 = .int .i64 0 ∧ Hid (Bx wx b y) ∧ Hid (Below wr.heap.size wr wx))
        case first =>
          go_region_held3 (SM w.heap.size x (a.add k) s) (first | with_reducible assumption | with_reducible exact HS2.out | with_reducible exact sm_alloc HS2.out | with_reducible exact sm_two HS2.out HNB.out.1 HNB.out.2 | with_reducible exact sm_drew hS | with_reducible exact sm_alloc (sm_drew hS) | exact sm_alloc hS | fail)
            (first
              | (go_at_call 22; refine (HC.out _).mono ?_; rintro e w2 ⟨rfl, b⟩; have HB2 : Hid (Below wr.heap.size wr w2) := (by first | exact q_trans (Below.refl _ wr).drew b | exact q_trans (q_alloc (Below.refl _ wr).drew _) b | exact q_trans (q_alloc (Below.refl _ wr) _) b); have HS2 : Hid (SM w.heap.size x (a.add k) s w2) := (sm_keep HB2.out hS); (try (have HZ2 : Hid (Bx w2 wr.heap.size (0, 0)) := (by first | exact (bx_new wr (0, 0) 23).below b | exact (bx_new wr.drew (0, 0) 23).below b); obtain ⟨z0, z1, z2, z3⟩ := HZ2.out)))
              | fail)
          all_goals (try go_wp2_with fail)
          all_goals go_meet
          all_goals first
            | exact ⟨_, rfl, rfl, rfl, bx_new _ y _, q_alloc HB2.out _⟩
            | exact ⟨_, rfl, rfl, rfl, bx_put HZ2.out, bx_low HB2.out⟩
        case rest =>
          obtain ⟨c, rfl, rfl, rfl, HX, HBc⟩ := hcut
          obtain ⟨y0, y1, y2, y3⟩ := HX.out
          clear p0 p1 p2 p3 ca hv hS HNB
          have ho := own_below (own_below HM.out.mine.2 HBc.out) (alloc_below wc (.cells #[.int .i64 y.1, .int .i64 y.2] 23))
          have HO := hid ho
          have hr := one_ext wc y 23
          have HRw := hid hr
          have HZ : Hid (w.heap.size + 1 ≤ (wc.alloc (.cells #[.int .i64 y.1, .int .i64 y.2] 23)).heap.size) := Nat.le_trans HM.out.box.lt (q_alloc HBc.out _).size
          have HSm : Hid (N ≤ 1000) := Nat.le_trans HM.out.small (by omega)
          clear ho hr
          go_wp2_with (at_builtin; go_loud (refine wpList_append_row _ rfl (.tmp 37) (.tmp 39) 37 23 _ 2 16 rfl Try.underlying37 infoX rfl (by decide) (by decide) (w.heap.size + 1) _ N (exts m) rfl HO.out _ 1 1 (exts [y]) rfl rfl (fun h => by cases h) HRw.out (exts_one _) (by have := HSm.out; omega) HZ.out ?_; intro ao3 cap3 w3 own3 grow3; apply Hid.out))
          have HM3 := hid (HM.out.step (q_alloc HBc.out _) (by have := HN.out; omega) HS.out HB.out HY.out HU.out own3 grow3)
          clear own3 grow3 HO HRw HZ
          unfold Hid
          go_wp2_with fail
          go_roundw
          case rel => exact ⟨k + 1, N + 1, cap3, ao3, u', m ++ [y], by omega, rfl, rfl, by go_num, HM3⟩
          case measure => simp [intOf]; omega
    · have HL : Hid (l.take k = l) := List.take_of_length_le (by have := HH.out.len; omega)
      have hr := HM.out.run
      rw [HL.out] at hr
      have HE : Hid (mnE x v l = 0) := by unfold Hid mnE; rw [hr]
      have E1 : Hid (mnL x v l = m) := by unfold Hid; rw [(mn_yes HE.out).1, hr]
      have E2 : Hid (mnW x v l = u) := by unfold Hid; rw [(mn_yes HE.out).2, hr]
      have HN := hid HM.out.mine.1
      clear hr
      go_wp2_with fail
      refine bodyPost_ret (v := .tuple #[.slice ao1 N cap1, .int .i64 u, .int .i64 0]) (by simp [results, Try.results24, go_sem]) rfl ⟨ao1, cap1, by rw [E1.out, E2.out, HE.out, HN.out], by rw [E1.out, ← HN.out]; exact HM.out.mine.has, HM.out.low⟩
end Go.Proofs.Yteohoipkdjhllaa.Ca
