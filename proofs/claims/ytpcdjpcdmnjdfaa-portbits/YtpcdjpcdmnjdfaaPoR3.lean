/- What the document's without does. -/
import Derived.Test.YtpcdjpcdmnjdfaaPoW4
namespace Go.Proofs.Ytpcdjpcdmnjdfaa.Po
open Go.RowKit

set_option maxRecDepth 100000 in
set_option maxHeartbeats 4000000 in
/-- without: THE PORT WITHOUT THE ONE AT A PLACE. -/
theorem rwithout_any (p : Pt) (y : Hd) (i : Nat) (w : World) (hs : y.n ≤ 5000) (hi : i < y.n) (HH : Hid (HasQ w y p.l)) :
    Calls Try.prog 40 #[(.agg #[.int .i64 p.k, .int .i64 p.w, .slice y.o y.n y.c]), .int .i64 i] w fun e w' => ∃ z : Hd, e = .returned (.agg #[.int .i64 (woP p i).k, .int .i64 (woP p i).w, .slice z.o z.n z.c]) ∧ Ans w w' z (woP p i).l := by
  have HN := hid HH.out.len
  obtain ⟨j, hj⟩ : ∃ j : Nat, j = i + 1 := ⟨_, rfl⟩
  have hj1 : (i : Int) + 1 = (j : Int) := by omega
  have hj2 : IntKind.i64.wrap (j : Int) = (j : Int) := by rw [IntKind.wrap_i64] <;> omega
  obtain ⟨m, hm⟩ : ∃ m : Nat, m + 1 = y.n := ⟨y.n - 1, by omega⟩
  have HKs : Hid (p.l.take i ++ p.l.drop j = p.l.eraseIdx i) := by unfold Hid; rw [hj, List.eraseIdx_eq_take_drop_succ]
  have HL1 : Hid (i + (y.n - j) = m ∧ m = (p.l.eraseIdx i).length) := by
    refine ⟨by omega, ?_⟩
    have h9 := List.length_eraseIdx_of_lt (l := p.l) (i := i) (by have := HN.out; omega)
    have := HN.out
    omega
  have ckc : y.n ≤ y.c := HH.out.cap
  have e1 : ∀ W, (Instr.slice 22 (.slice y.o y.n y.c) none (some (.int .i64 (i : Int))) none).run Try.prog W = .ok (.slice y.o i y.c) W := fun W => run_to _ i y.n y.c (by omega) W
  obtain ⟨ao2, hao2⟩ : ∃ ao2 : Option Addr, (if y.c = j then y.o else y.o.map (·.add (j * 8))) = ao2 := ⟨_, rfl⟩
  have e2 : ∀ W, (Instr.slice 22 (.slice y.o y.n y.c) (some (.int .i64 (j : Int))) none none).run Try.prog W = .ok (.slice ao2 (y.n - j) (y.c - j)) W := fun W => by
    have h := run_from y.o j y.n y.c (by omega) W
    rwa [hao2] at h
  have HT1 : Hid (HasQ w ⟨y.o, i, y.c⟩ (p.l.take i)) := HH.out.take i (by omega)
  have HD1 : Hid (HasQ w ⟨ao2, y.n - j, y.c - j⟩ (p.l.drop j)) := by
    have h := HH.out.drop j (by omega)
    rwa [hao2] at h
  have hm4 : m ≤ 5000 := by omega
  have hy1 : i ≤ 5000 := by omega
  have hy2 : y.n - j ≤ 5000 := by omega
  clear hao2 hj hm ckc
  go_enter Try.func40, Try.ntmps40
  go_upto_region 1 with fail
  have HT : Hid (B2 w ((w.alloc (.cells #[.int .i64 p.k, .int .i64 p.w, .slice y.o y.n y.c] 24)).alloc (.cells #[.int .i64 0, .int .i64 0, .slice none 0 0] 24)) p p0 y nilH) := b2_new w p p0 y nilH
  generalize (w.alloc (.cells #[.int .i64 p.k, .int .i64 p.w, .slice y.o y.n y.c] 24)).alloc (.cells #[.int .i64 0, .int .i64 0, .slice none 0 0] 24) = W at HT ⊢
  have hW := hid HT.out.lt
  have c2 := HT.out.a.c2
  have f2 := HT.out.a.fz 2
  have HQ : Hid (∀ W', Below W.heap.size W W' → W'.cell? ⟨w.heap.size, 2, none⟩ = some (.slice y.o y.n y.c) ∧ W'.frozen? ⟨w.heap.size, 2, none⟩ = false) := fun W' b => ⟨(HT.out.a.below b).c2, (HT.out.a.below b).fz 2⟩
  have hlg : w.heap.size < W.heap.size := HT.out.a.lt
  go_cut [16] from 5 to 17 (fun s16 wx => ∃ (ao : Option Addr) (cap : Nat), s16 = .slice ao m cap ∧ Hid (B2 w wx ⟨p.k, p.w, p.l.eraseIdx i⟩ p0 ⟨ao, m, cap⟩ nilH) ∧ Hid (HasQ wx ⟨ao, m, cap⟩ (p.l.eraseIdx i)) ∧ Hid (Off (fun i => i < w.heap.size + 2) ao (wts (p.l.eraseIdx i))))
  case first =>
    go_region_law
      (first
        | (refine step_ws _ (by rfl) (.tmp 5) (.tmp 9) (by rfl) W.heap.size _ 0 [] (by rfl) (by first | exact own0 W 28 8 | exact (own0 W 28 8).drew) y.o i y.c (p.l.take i) (by rfl) HT1.out.len HT1.out.nil (by first | exact ((HT1.out.below HT.out.low).below (alloc_below W _)).row | exact ((HT1.out.below HT.out.low).below (alloc_below W _).drew).row) i (Nat.zero_add _) (p.l.take i) (List.nil_append _) (by omega) (alloc_below W (.cells #[] 28)).size ?_; intro ao5 cap5 w5 own5 grow5; have b5 : Hid (Below W.heap.size W w5) := (q_trans (Below.refl _ W).drew (app_below (w := W.drew) grow5)); have q1 := (HQ.out _ b5.out).1; have q2 := (HQ.out _ b5.out).2)
        | (refine step_ws _ (by rfl) (.tmp 10) (.tmp 15) (by rfl) W.heap.size _ i (p.l.take i) (by rfl) own5 ao2 (y.n - j) (y.c - j) (p.l.drop j) (by rfl) HD1.out.len HD1.out.nil ((HD1.out.below HT.out.low).below b5.out).row m HL1.out.1 (p.l.eraseIdx i) HKs.out (by omega) b5.out.size ?_; intro ao6 cap6 w6 own6 grow6; have b6 : Hid (Below W.heap.size W w6) := (b5.out.grown grow6 b5.out.size (fun k e => (World.ownsRow.lt own5 k e).1)); have q3 := (HQ.out _ b6.out).1; have q4 := (HQ.out _ b6.out).2)
        | fail)
    all_goals (try go_wp2_with fail)
    all_goals go_meet
    all_goals
      have hM6 : MineQ w6 W.heap.size ⟨ao6, m, cap6⟩ (p.l.eraseIdx i) := ⟨HL1.out.2, own6⟩
      have hn := hM6.new
      exact ⟨ao6, cap6, rfl, (HT.out.below b6.out).setQ (p.l.eraseIdx i) ⟨ao6, m, cap6⟩, hM6.has.set hn (p := ⟨w.heap.size, 2, none⟩) hlg _, off_less hn hW.out⟩
  case rest =>
    obtain ⟨ao, cap, rfl, HB, HA, HO⟩ := hcut
    clear HT HQ c2 f2 hlg e1 e2 HT1 HD1 hW
    have c0 := HB.out.a.c0
    have c1 := HB.out.a.c1
    have c2 : wc.cell? ⟨w.heap.size, 2, none⟩ = some (.slice ao m cap) := HB.out.a.c2
    have f0 := HB.out.a.fz 0
    have r0 : wc.cell? ⟨w.heap.size + 1, 0, none⟩ = some (.int .i64 0) := HB.out.r.c0
    have r1 : wc.cell? ⟨w.heap.size + 1, 1, none⟩ = some (.int .i64 0) := HB.out.r.c1
    have r2 : wc.cell? ⟨w.heap.size + 1, 2, none⟩ = some (.slice none 0 0) := HB.out.r.c2
    have g0 := HB.out.r.fz 0
    have g1 := HB.out.r.fz 1
    have g2 := HB.out.r.fz 2
    have hl2 : w.heap.size + 1 < wc.heap.size := HB.out.lt
    by_cases hm0 : m = 0
    · have HR := hid (wo_zero (p := p) (i := i) (by have := HL1.out.2; omega))
      have q1 : ((m : Int) == 0) = true := by simp; omega
      clear hm0
      go_wp2_with fail
      refine bodyPost_ret (v := .agg #[.int .i64 0, .int .i64 p.w, .slice ao m cap]) (by simp [results, Try.results40, go_sem, *]) rfl ⟨⟨ao, m, cap⟩, by rw [HR.out], ?_⟩
      rw [HR.out]
      exact ⟨(HA.out.set HO.out (p := ⟨w.heap.size, 0, none⟩) (by show w.heap.size < _; omega) _).set3 HO.out (by omega) ⟨0, p.w, []⟩ ⟨ao, m, cap⟩, off_less HO.out (by omega), put3_low (p := ⟨0, p.w, []⟩) (y := ⟨ao, m, cap⟩) (q_set HB.out.low (Nat.le_refl _) _) (Nat.le_succ _)⟩
    · have HR := hid (wo_some (p := p) (i := i) (by have := HL1.out.2; omega))
      have q1 : ((m : Int) == 0) = false := by simp; omega
      clear hm0
      go_wp2_with fail
      refine bodyPost_ret (v := .agg #[.int .i64 p.k, .int .i64 p.w, .slice ao m cap]) (by simp [results, Try.results40, go_sem, *]) rfl ⟨⟨ao, m, cap⟩, by rw [HR.out], ?_⟩
      rw [HR.out]
      exact ⟨HA.out.set3 HO.out (by omega) ⟨p.k, p.w, []⟩ ⟨ao, m, cap⟩, off_less HO.out (by omega), put3_low (p := ⟨p.k, p.w, []⟩) (y := ⟨ao, m, cap⟩) HB.out.low (Nat.le_succ _)⟩
end Go.Proofs.Ytpcdjpcdmnjdfaa.Po
