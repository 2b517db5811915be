/- What apart, without, with do. -/
import Derived.Test.YtpcdjpcdmnjdfabPoW2
import Derived.Test.YtpcdjpcdmnjdfabPoW3
import Derived.Deep.Cut
import Derived.Deep.CutRange
import Derived.Deep.RegionLaw
import Derived.Deep.RegionHeld3
namespace Go.Proofs.Ytpcdjpcdmnjdfab.Po
open Go.RowKit

set_option maxHeartbeats 1000000 in
/-- apart: THE SAME PORT, IN MEMORY OF ITS OWN. -/
theorem apart_any (p : Pt) (y : Hd) (w : World) (hs : y.n ≤ 5000) (HH : Hid (HasQ w y p.l)) :
    Calls Try.prog 16 #[(.agg #[.int .i64 p.k, .int .i64 p.w, .slice y.o y.n y.c])] w fun e w' => ∃ z : Hd, e = .returned (.agg #[.int .i64 p.k, .int .i64 p.w, .slice z.o z.n z.c]) ∧ Ans w w' z p.l := by
  go_enter Try.func16, Try.ntmps16
  go_wp2_with fail
  have HT : Hid (B2 w ((w.alloc (.cells #[.int .i64 p.k, .int .i64 p.w, .slice y.o y.n y.c] 25)).alloc (.cells #[.int .i64 0, .int .i64 0, .slice none 0 0] 25)) p p0 y nilH) := b2_new w p p0 y nilH
  generalize (w.alloc (.cells #[.int .i64 p.k, .int .i64 p.w, .slice y.o y.n y.c] 25)).alloc (.cells #[.int .i64 0, .int .i64 0, .slice none 0 0] 25) = W at HT ⊢
  have hW := hid HT.out.lt
  refine (clone_any y p.l W hs (HH.out.below HT.out.low)).mono ?_
  rintro e w1 ⟨ao, cap, rfl, hm, b1⟩
  have HM := hid hm
  replace HT := hid (HT.out.below b1)
  clear b1 hm
  have c0 := HT.out.a.c0
  have c1 := HT.out.a.c1
  have c2 := HT.out.a.c2
  have f2 := HT.out.a.fz 2
  have r0 : w1.cell? ⟨w.heap.size + 1, 0, none⟩ = some (.int .i64 0) := HT.out.r.c0
  have r1 : w1.cell? ⟨w.heap.size + 1, 1, none⟩ = some (.int .i64 0) := HT.out.r.c1
  have r2 : w1.cell? ⟨w.heap.size + 1, 2, none⟩ = some (.slice none 0 0) := HT.out.r.c2
  have g0 := HT.out.r.fz 0
  have g1 := HT.out.r.fz 1
  have g2 := HT.out.r.fz 2
  go_wp2_with fail
  refine bodyPost_ret (v := .agg #[.int .i64 p.k, .int .i64 p.w, .slice ao y.n cap]) (by simp [results, Try.results16, go_sem, *]) rfl ⟨⟨ao, y.n, cap⟩, rfl, ?_⟩
  have hn := HM.out.new
  have h1 := hW.out
  exact ⟨(HM.out.has.set hn (p := ⟨w.heap.size, 2, none⟩) (by show w.heap.size < _; omega) _).set3 hn (by omega) p ⟨ao, y.n, cap⟩, off_less hn (by omega), put3_low (p := p) (y := ⟨ao, y.n, cap⟩) (q_set HT.out.low (Nat.le_refl _) _) (Nat.le_succ _)⟩
theorem B2.setQ {w wx : World} {p q : Pt} {y z : Hd} (h : B2 w wx p q y z) (l : List Wt) (v : Hd) : B2 w (wx.setCell ⟨w.heap.size, 2, none⟩ (.slice v.o v.n v.c)) ⟨p.k, p.w, l⟩ q v z :=
  ⟨h.a.setQ l v, h.r.kept (kept_set (fun i => i = w.heap.size) wx ⟨w.heap.size, 2, none⟩ _ rfl) (by omega), q_set h.low (Nat.le_refl _) _⟩
theorem B2.setK {w wx : World} {p q : Pt} {y z : Hd} (h : B2 w wx p q y z) (k : Int) : B2 w (wx.setCell ⟨w.heap.size, 0, none⟩ (.int .i64 k)) ⟨k, p.w, p.l⟩ q y z :=
  ⟨h.a.setK k, h.r.kept (kept_set (fun i => i = w.heap.size) wx ⟨w.heap.size, 0, none⟩ _ rfl) (by omega), q_set h.low (Nat.le_refl _) _⟩
theorem wo_zero {p : Pt} {i : Nat} (h : (p.l.eraseIdx i).length = 0) : woP p i = ⟨0, p.w, p.l.eraseIdx i⟩ := by simp only [woP, if_pos h]
theorem wo_some {p : Pt} {i : Nat} (h : (p.l.eraseIdx i).length ≠ 0) : woP p i = ⟨p.k, p.w, p.l.eraseIdx i⟩ := by simp only [woP, if_neg h]
set_option maxRecDepth 100000 in
set_option maxHeartbeats 4000000 in
/-- without: THE PORT WITHOUT THE ONE AT A PLACE. -/
theorem without_any (p : Pt) (y : Hd) (i : Nat) (w : World) (hs : y.n ≤ 5000) (hi : i < y.n) (HH : Hid (HasQ w y p.l)) :
    Calls Try.prog 17 #[(.agg #[.int .i64 p.k, .int .i64 p.w, .slice y.o y.n y.c]), .int .i64 i] w fun e w' => ∃ z : Hd, e = .returned (.agg #[.int .i64 (woP p i).k, .int .i64 (woP p i).w, .slice z.o z.n z.c]) ∧ Ans w w' z (woP p i).l := by
  have HN := hid HH.out.len
  obtain ⟨j, hj⟩ : ∃ j : Nat, j = i + 1 := ⟨_, rfl⟩
  have hj1 : (i : Int) + 1 = (j : Int) := by omega
  have hj2 : IntKind.i64.wrap (j : Int) = (j : Int) := by rw [IntKind.wrap_i64] <;> omega
  obtain ⟨m, hm⟩ : ∃ m : Nat, m + 1 = y.n := ⟨y.n - 1, by omega⟩
  have HKs : Hid (p.l.take i ++ p.l.drop j = p.l.eraseIdx i) := by unfold Hid; rw [hj, List.eraseIdx_eq_take_drop_succ]
  have HL1 : Hid (i + (y.n - j) = m ∧ m = (p.l.eraseIdx i).length) := by
    refine ⟨by omega, ?_⟩
    have h9 := List.length_eraseIdx_of_lt (l := p.l) (i := i) (by have := HN.out; omega)
    have := HN.out
    omega
  have ckc : y.n ≤ y.c := HH.out.cap
  have e1 : ∀ W, (Instr.slice 23 (.slice y.o y.n y.c) none (some (.int .i64 (i : Int))) none).run Try.prog W = .ok (.slice y.o i y.c) W := fun W => run_to _ i y.n y.c (by omega) W
  obtain ⟨ao2, hao2⟩ : ∃ ao2 : Option Addr, (if y.c = j then y.o else y.o.map (·.add (j * 8))) = ao2 := ⟨_, rfl⟩
  have e2 : ∀ W, (Instr.slice 23 (.slice y.o y.n y.c) (some (.int .i64 (j : Int))) none none).run Try.prog W = .ok (.slice ao2 (y.n - j) (y.c - j)) W := fun W => by
    have h := run_from y.o j y.n y.c (by omega) W
    rwa [hao2] at h
  have HT1 : Hid (HasQ w ⟨y.o, i, y.c⟩ (p.l.take i)) := HH.out.take i (by omega)
  have HD1 : Hid (HasQ w ⟨ao2, y.n - j, y.c - j⟩ (p.l.drop j)) := by
    have h := HH.out.drop j (by omega)
    rwa [hao2] at h
  have hm4 : m ≤ 5000 := by omega
  have hy1 : i ≤ 5000 := by omega
  have hy2 : y.n - j ≤ 5000 := by omega
  clear hao2 hj hm ckc
  go_enter Try.func17, Try.ntmps17
  go_upto_region 1 with fail
  have HT : Hid (B2 w ((w.alloc (.cells #[.int .i64 p.k, .int .i64 p.w, .slice y.o y.n y.c] 25)).alloc (.cells #[.int .i64 0, .int .i64 0, .slice none 0 0] 25)) p p0 y nilH) := b2_new w p p0 y nilH
  generalize (w.alloc (.cells #[.int .i64 p.k, .int .i64 p.w, .slice y.o y.n y.c] 25)).alloc (.cells #[.int .i64 0, .int .i64 0, .slice none 0 0] 25) = W at HT ⊢
  have hW := hid HT.out.lt
  have c2 := HT.out.a.c2
  have f2 := HT.out.a.fz 2
  have HQ : Hid (∀ W', Below W.heap.size W W' → W'.cell? ⟨w.heap.size, 2, none⟩ = some (.slice y.o y.n y.c) ∧ W'.frozen? ⟨w.heap.size, 2, none⟩ = false) := fun W' b => ⟨(HT.out.a.below b).c2, (HT.out.a.below b).fz 2⟩
  have hlg : w.heap.size < W.heap.size := HT.out.a.lt
  have HCC : Hid (∀ X : World, Below W.heap.size W X → ∀ b, X.cell? ⟨b, 0, none⟩ = some (.slice y.o i y.c) → X.cell? ⟨b, 1, none⟩ = some (.slice ao2 (y.n - j) (y.c - j)) → Calls Try.prog 24 #[.slice (some ⟨b, 0, none⟩) 2 2] X fun e w' => ∃ ao cap, e = .returned (.slice ao m cap) ∧ MineQ w' X.heap.size ⟨ao, m, cap⟩ (p.l.eraseIdx i) ∧ Below X.heap.size X w') := fun X q b h0 h1 => by
    have h := concat_any b y.o ao2 i (y.n - j) y.c (y.c - j) (p.l.take i) (p.l.drop j) X h0 h1 (HT1.out.below (q_trans HT.out.low q)) (HD1.out.below (q_trans HT.out.low q)) hy1 hy2
    rw [HKs.out] at h
    rw [HL1.out.1] at h
    exact h
  go_cut [15] from 5 to 16 (fun s15 wx => ∃ (ao : Option Addr) (cap : Nat), s15 = .slice ao m cap ∧ Hid (B2 w wx ⟨p.k, p.w, p.l.eraseIdx i⟩ p0 ⟨ao, m, cap⟩ nilH) ∧ Hid (HasQ wx ⟨ao, m, cap⟩ (p.l.eraseIdx i)) ∧ Hid (Off (fun i => i < w.heap.size + 2) ao (wts (p.l.eraseIdx i))))
  case first =>
    go_region_with (go_at_call 24; refine (HCC.out _ (by first | exact (alloc_below W _).drew | exact q_alloc (Below.refl _ W).drew _) W.heap.size (by simp) (by simp)).mono ?_; rintro e w1 ⟨ao, cap, rfl, hm1, b1⟩; have HM := hid hm1; have HB1 : Hid (Below W.heap.size W w1) := (by first | exact q_trans (alloc_below W _).drew b1 | exact q_trans (q_alloc (Below.refl _ W).drew _) b1); have q1 := (HQ.out _ HB1.out).1; have q2 := (HQ.out _ HB1.out).2; clear hm1 b1)
    all_goals (try go_wp2_with fail)
    all_goals go_meet
    all_goals
      have hn := HM.out.new
      have h1 := hW.out
      exact ⟨ao, cap, rfl, (HT.out.below HB1.out).setQ (p.l.eraseIdx i) ⟨ao, m, cap⟩, HM.out.has.set (off_less hn (alloc_below W _).size) (p := ⟨w.heap.size, 2, none⟩) hlg _, off_less hn (Nat.le_trans hW.out (alloc_below W _).size)⟩
  case rest =>
    obtain ⟨ao, cap, rfl, HB, HA, HO⟩ := hcut
    clear HT HQ HCC c2 f2 hlg e1 e2 HT1 HD1 hW
    have c0 := HB.out.a.c0
    have c1 := HB.out.a.c1
    have c2 : wc.cell? ⟨w.heap.size, 2, none⟩ = some (.slice ao m cap) := HB.out.a.c2
    have f0 := HB.out.a.fz 0
    have r0 : wc.cell? ⟨w.heap.size + 1, 0, none⟩ = some (.int .i64 0) := HB.out.r.c0
    have r1 : wc.cell? ⟨w.heap.size + 1, 1, none⟩ = some (.int .i64 0) := HB.out.r.c1
    have r2 : wc.cell? ⟨w.heap.size + 1, 2, none⟩ = some (.slice none 0 0) := HB.out.r.c2
    have g0 := HB.out.r.fz 0
    have g1 := HB.out.r.fz 1
    have g2 := HB.out.r.fz 2
    have hl2 : w.heap.size + 1 < wc.heap.size := HB.out.lt
    by_cases hm0 : m = 0
    · have HR := hid (wo_zero (p := p) (i := i) (by have := HL1.out.2; omega))
      have q1 : ((m : Int) == 0) = true := by simp; omega
      clear hm0
      go_wp2_with fail
      refine bodyPost_ret (v := .agg #[.int .i64 0, .int .i64 p.w, .slice ao m cap]) (by simp [results, Try.results17, go_sem, *]) rfl ⟨⟨ao, m, cap⟩, by rw [HR.out], ?_⟩
      rw [HR.out]
      exact ⟨(HA.out.set HO.out (p := ⟨w.heap.size, 0, none⟩) (by show w.heap.size < _; omega) _).set3 HO.out (by omega) ⟨0, p.w, []⟩ ⟨ao, m, cap⟩, off_less HO.out (by omega), put3_low (p := ⟨0, p.w, []⟩) (y := ⟨ao, m, cap⟩) (q_set HB.out.low (Nat.le_refl _) _) (Nat.le_succ _)⟩
    · have HR := hid (wo_some (p := p) (i := i) (by have := HL1.out.2; omega))
      have q1 : ((m : Int) == 0) = false := by simp; omega
      clear hm0
      go_wp2_with fail
      refine bodyPost_ret (v := .agg #[.int .i64 p.k, .int .i64 p.w, .slice ao m cap]) (by simp [results, Try.results17, go_sem, *]) rfl ⟨⟨ao, m, cap⟩, by rw [HR.out], ?_⟩
      rw [HR.out]
      exact ⟨HA.out.set3 HO.out (by omega) ⟨p.k, p.w, []⟩ ⟨ao, m, cap⟩, off_less HO.out (by omega), put3_low (p := ⟨p.k, p.w, []⟩) (y := ⟨ao, m, cap⟩) HB.out.low (Nat.le_succ _)⟩
end Go.Proofs.Ytpcdjpcdmnjdfab.Po
