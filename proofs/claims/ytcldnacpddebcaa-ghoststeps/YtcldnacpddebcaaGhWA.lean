/- What the program's Run does. -/
import Derived.Test.YtcldnacpddebcaaGhW9
import Derived.Test.YtcldnacpddebcaaPkB
import Derived.WalkMore
namespace Go.Proofs.Ytcldnacpddebcaa.Gh
open Go.RowKit
open Go.Proofs.Ytcldnacpddebcaa.Tr

theorem run_start (w : World) : Og ((w.alloc (.cells #[.slice nilG.k.o nilG.k.n nilG.k.c, .slice nilG.i.o nilG.i.n nilG.i.c, .slice nilG.f.o nilG.f.n nilG.f.c] 25)).alloc (.cells #[.slice nilG.k.o nilG.k.n nilG.k.c, .slice nilG.i.o nilG.i.n nilG.i.c, .slice nilG.f.o nilG.f.n nilG.f.c] 25)) (w.heap.size + 1) (w.heap.size + 1) nilG g0 ∧ InW ((w.alloc (.cells #[.slice nilG.k.o nilG.k.n nilG.k.c, .slice nilG.i.o nilG.i.n nilG.i.c, .slice nilG.f.o nilG.f.n nilG.f.c] 25)).alloc (.cells #[.slice nilG.k.o nilG.k.n nilG.k.c, .slice nilG.i.o nilG.i.n nilG.i.c, .slice nilG.f.o nilG.f.n nilG.f.c] 25)) w.heap.size nilG ∧ Below w.heap.size w ((w.alloc (.cells #[.slice nilG.k.o nilG.k.n nilG.k.c, .slice nilG.i.o nilG.i.n nilG.i.c, .slice nilG.f.o nilG.f.n nilG.f.c] 25)).alloc (.cells #[.slice nilG.k.o nilG.k.n nilG.k.c, .slice nilG.i.o nilG.i.n nilG.i.c, .slice nilG.f.o nilG.f.n nilG.f.c] 25)) := by
  refine ⟨?_, (inW_new w nilG 25).below (alloc_below _ _), q_alloc (alloc_below _ _) _⟩
  have h := og_nil (w.alloc (.cells #[.slice nilG.k.o nilG.k.n nilG.k.c, .slice nilG.i.o nilG.i.n nilG.i.c, .slice nilG.f.o nilG.f.n nilG.f.c] 25)) (w.heap.size + 1) 25
  rwa [show (w.alloc (.cells #[.slice nilG.k.o nilG.k.n nilG.k.c, .slice nilG.i.o nilG.i.n nilG.i.c, .slice nilG.f.o nilG.f.n nilG.f.c] 25)).heap.size = w.heap.size + 1 by simp] at h
theorem rn4 (l : List Bi) {w : World} {B p : Nat} {y : Gv} (o : Og w B p y (rnA l)) : y.k.n ≤ 4096 := ((rn_ok l).n4 o).1
set_option maxRecDepth 100000 in
set_option maxHeartbeats 4000000 in
/-- RUN. -/
theorem prun_any (ao : Option Addr) (n cap : Nat) (l : List Bi) (w : World) (hs : n ≤ 1000) (HH : Hid (HasZ w ao n cap l)) :
    Calls Try.prog 25 #[.slice ao n cap] w fun e w' => ∃ x : Gv, e = .returned (.tuple #[(.agg #[.slice x.k.o x.k.n x.k.c, .slice x.i.o x.i.n x.i.c, .slice x.f.o x.f.n x.f.c]), .int .i64 (rnN l : Nat)]) ∧ HasG w' x (rnA l) ∧ Below w.heap.size w w' := by
  have HN := hid HH.out.len
  go_enter Try.func25, Try.ntmps25
  go_wp2_with fail
  go_step3
  go_wp2_with fail
  go_step3
  go_wp2_with fail
  have HR := hid (run_start w)
  unfold nilG at HR
  generalize (w.alloc (.cells #[.slice none 0 0, .slice none 0 0, .slice none 0 0] 25)).alloc (.cells #[.slice none 0 0, .slice none 0 0, .slice none 0 0] 25) = W at HR ⊢
  go_loopw [5, 10] (fun s5 s10 wr => ∃ (q c : Nat) (x : Gv), q ≤ n ∧ s10 = .int .i64 q ∧ s5 = .int .i64 c ∧ c ≤ q ∧ Hid (c = rnN (l.take q)) ∧ Hid (Og wr (w.heap.size + 1) (w.heap.size + 1) x (rnA (l.take q))) ∧ Hid (InW wr w.heap.size nilG) ∧ Hid (Below w.heap.size w wr)) (fun _ i _ => n - (intOf i).toNat)
  case atStart => exact ⟨0, 0, nilG, Nat.zero_le _, rfl, rfl, Nat.le_refl _, by simp [Hid, rnN, rnF], by simpa [Hid, rnA] using HR.out.1, HR.out.2.1, HR.out.2.2⟩
  case round =>
    obtain ⟨q, c, x, hq, rfl, rfl, hcq, HC, HO, HI, HB⟩ := hrel
    clear HR
    obtain ⟨c0, c1, c2, f0, f1, f2⟩ := HO.out.box
    have hlp : w.heap.size + 1 < wr.heap.size := HO.out.box.lt
    by_cases hlt : q < n
    · have i1 : (0 : Int) ≤ (q : Int) := by omega
      have i2 : (q : Int) < (n : Int) := by omega
      obtain ⟨a, rfl, ca⟩ := (HH.out.below HB.out).at q hlt
      obtain ⟨b, hb⟩ : ∃ b, l.getD q z0B = b := ⟨_, rfl⟩
      rw [hb] at ca
      have HT : Hid (l.take (q + 1) = l.take q ++ [b]) := by unfold Hid; rw [ztake_snoc l q (by have := HN.out; omega), hb]
      clear hb
      obtain ⟨g, hg⟩ : ∃ g, rnA (l.take q) = g := ⟨_, rfl⟩
      have HG := hid hg
      rw [hg] at HO
      clear hg
      have HGo : Hid (Ok g) := by rw [← HG.out]; exact rn_ok _
      obtain ⟨a0, a1, a2, a3, a4⟩ := ca
      have HZ := hid (atZ_new wr b 29)
      have HB1 := hid (alloc_below wr (.cells #[.int .i64 b.kind, .int .i64 b.key.1, .int .i64 b.key.2, .int .i64 b.fm.1, .int .i64 b.fm.2] 29))
      go_wp2_with fail
      refine (prefused_any x g b _ (by have := (HGo.out.n4 HO.out).1; omega) (HO.out.has.below HB1.out)).mono ?_
      rintro e w1 ⟨rfl, b1⟩
      rw [rf_ok (okB_iff.2 HGo.out)]
      replace HZ := hid (HZ.out.below b1)
      replace HB1 := hid (q_trans HB1.out b1)
      clear b1 a0 a1 a2 a3 a4 c0 c1 c2 f0 f1 f2 hlp
      have HO1 := hid (HO.out.below HB1.out)
      have HI1 := hid (HI.out.below HB1.out)
      have HBw := hid (q_trans HB.out HB1.out)
      have HLw : Hid (w.heap.size + 1 ≤ w1.heap.size) := Nat.le_of_lt HO1.out.box.lt
      obtain ⟨z0, z1, z2, z3, z4⟩ := HZ.out
      by_cases h : adE g b = 0
      · have HE := hid h
        rw [h]
        clear h
        go_wp2_with fail
        refine (befall_any (w.heap.size + 1) (w.heap.size + 1) x g b w1 HLw.out (Nat.le_refl _) HE.out HO1.out).mono ?_
        rintro e w5 ⟨rfl, ⟨x', ho5⟩, b5⟩
        have HO5 : Hid (Og w5 (w.heap.size + 1) (w.heap.size + 1) x' (rnA (l.take (q + 1)))) := by
          unfold Hid
          rw [HT.out, rn_snoc, HG.out]
          exact ho5
        have HC5 : Hid (c = rnN (l.take (q + 1))) := by
          unfold Hid
          rw [HT.out, rnN_yes (by rw [HG.out]; exact HE.out)]
          exact HC.out
        have HI5 := hid (HI1.out.lowB b5 (by omega))
        have HB5 : Hid (Below w.heap.size w w5) := HBw.out.trans (b5.mono (by omega))
        clear ho5 b5 z0 z1 z2 z3 z4
        go_wp2_with fail
        go_roundw
        case rel => exact ⟨q + 1, c, x', by omega, by go_num, rfl, by omega, HC5, HO5, HI5, HB5⟩
        case measure => simp [intOf]; omega
      · obtain ⟨v, hv⟩ : ∃ v, adE g b = v := ⟨_, rfl⟩
        have hv2 : (v != 0) = true := by rw [← hv]; simp [h]
        have HO5 : Hid (Og w1 (w.heap.size + 1) (w.heap.size + 1) x (rnA (l.take (q + 1)))) := by
          unfold Hid
          rw [HT.out, rnA_no (by rw [HG.out]; exact h), HG.out]
          exact HO1.out
        have HC5 : Hid (c + 1 = rnN (l.take (q + 1))) := by
          unfold Hid
          rw [HT.out, rnN_no (by rw [HG.out]; exact h), ← HC.out]
        rw [hv]
        clear h hv
        go_wp2_with fail
        go_roundw
        case rel => exact ⟨q + 1, c + 1, x, by omega, by go_num, by go_num, by omega, HC5, HO5, HI1, HBw⟩
        case measure => simp [intOf]; omega
    · obtain rfl : q = n := by omega
      have HE : Hid (l.take q = l) := by unfold Hid; rw [HN.out]; exact List.take_length
      rw [HE.out] at HO HC
      obtain ⟨r0, r1, r2, s0, s1, s2⟩ := HI.out
      have hlr : w.heap.size < wr.heap.size := by omega
      go_wp2_with fail
      try rw [Exit.noGoto_ret]
      exact bodyPost_ret (v := .tuple #[(.agg #[.slice x.k.o x.k.n x.k.c, .slice x.i.o x.i.n x.i.c, .slice x.f.o x.f.n x.f.c]), .int .i64 (c : Int)]) (by simp [results, Try.results25, go_sem, *]) rfl ⟨x, by rw [HC.out], HO.out.fin (by omega) _ _ _, q_set (q_set (q_set HB.out (Nat.le_refl _) _) (Nat.le_refl _) _) (Nat.le_refl _) _⟩
end Go.Proofs.Ytcldnacpddebcaa.Gh
