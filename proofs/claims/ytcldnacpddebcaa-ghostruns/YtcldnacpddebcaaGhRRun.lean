/- What the document's Run does. -/
import Derived.Test.YtcldnacpddebcaaGhRAddA
import Derived.Test.YtcldnacpddebcaaGhGb
namespace Go.Proofs.Ytcldnacpddebcaa.Gh
open Go.RowKit
open Go.Proofs.Ytcldnacpddebcaa.Tr

theorem run2_start (w : World) : Hg ((w.alloc (.cells #[.slice nilG.k.o nilG.k.n nilG.k.c, .slice nilG.i.o nilG.i.n nilG.i.c, .slice nilG.f.o nilG.f.n nilG.f.c] 25)).alloc (.cells #[.slice nilG.k.o nilG.k.n nilG.k.c, .slice nilG.i.o nilG.i.n nilG.i.c, .slice nilG.f.o nilG.f.n nilG.f.c] 25)) (w.heap.size + 1) nilG g0 ∧ Gb ((w.alloc (.cells #[.slice nilG.k.o nilG.k.n nilG.k.c, .slice nilG.i.o nilG.i.n nilG.i.c, .slice nilG.f.o nilG.f.n nilG.f.c] 25)).alloc (.cells #[.slice nilG.k.o nilG.k.n nilG.k.c, .slice nilG.i.o nilG.i.n nilG.i.c, .slice nilG.f.o nilG.f.n nilG.f.c] 25)) w.heap.size nilG ∧ Below w.heap.size w ((w.alloc (.cells #[.slice nilG.k.o nilG.k.n nilG.k.c, .slice nilG.i.o nilG.i.n nilG.i.c, .slice nilG.f.o nilG.f.n nilG.f.c] 25)).alloc (.cells #[.slice nilG.k.o nilG.k.n nilG.k.c, .slice nilG.i.o nilG.i.n nilG.i.c, .slice nilG.f.o nilG.f.n nilG.f.c] 25)) := by
  refine ⟨?_, (gb_new w nilG).below (alloc_below _ _), q_alloc (alloc_below _ _) _⟩
  have h := hg_new (w := w.alloc (.cells #[.slice nilG.k.o nilG.k.n nilG.k.c, .slice nilG.i.o nilG.i.n nilG.i.c, .slice nilG.f.o nilG.f.n nilG.f.c] 25)) (hasG_nil _)
  rwa [show (w.alloc (.cells #[.slice nilG.k.o nilG.k.n nilG.k.c, .slice nilG.i.o nilG.i.n nilG.i.c, .slice nilG.f.o nilG.f.n nilG.f.c] 25)).heap.size = w.heap.size + 1 by simp] at h
set_option maxRecDepth 100000 in
set_option maxHeartbeats 4000000 in
/-- THE DOCUMENT'S RUN. -/
theorem rrun_any (ao : Option Addr) (n cap : Nat) (l : List Bi) (w : World) (hs : n ≤ 1000) (HH : Hid (HasZ w ao n cap l)) :
    Calls Try.prog 26 #[.slice ao n cap] w fun e w' => ∃ x : Gv, e = .returned (.tuple #[(.agg #[.slice x.k.o x.k.n x.k.c, .slice x.i.o x.i.n x.i.c, .slice x.f.o x.f.n x.f.c]), .int .i64 (rnN l : Nat)]) ∧ HasG w' x (rnA l) ∧ Below w.heap.size w w' := by
  have HN := hid HH.out.len
  go_enter Try.func26, Try.ntmps26
  go_wp2_with fail
  have HR := hid (run2_start w)
  unfold nilG at HR
  generalize (w.alloc (.cells #[.slice none 0 0, .slice none 0 0, .slice none 0 0] 25)).alloc (.cells #[.slice none 0 0, .slice none 0 0, .slice none 0 0] 25) = W at HR ⊢
  go_loopw [5, 6] (fun s5 s6 wr => ∃ (q c : Nat) (x : Gv), q ≤ n ∧ s6 = .int .i64 q ∧ s5 = .int .i64 c ∧ c ≤ q ∧ Hid (c = rnN (l.take q)) ∧ Hid (Hg wr (w.heap.size + 1) x (rnA (l.take q))) ∧ Hid (Gb wr w.heap.size nilG) ∧ Hid (Below w.heap.size w wr)) (fun _ i _ => n - (intOf i).toNat)
  case atStart => exact ⟨0, 0, nilG, Nat.zero_le _, rfl, rfl, Nat.le_refl _, by simp [Hid, rnN, rnF], by simpa [Hid, rnA] using HR.out.1, HR.out.2.1, HR.out.2.2⟩
  case round =>
    obtain ⟨q, c, x, hq, rfl, rfl, hcq, HC, HG, HI, HB⟩ := hrel
    clear HR
    by_cases hlt : q < n
    · have i1 : (0 : Int) ≤ (q : Int) := by omega
      have i2 : (q : Int) < (n : Int) := by omega
      obtain ⟨a, rfl, ca⟩ := (HH.out.below HB.out).at q hlt
      obtain ⟨b, hb⟩ : ∃ b, l.getD q z0B = b := ⟨_, rfl⟩
      rw [hb] at ca
      have HT : Hid (l.take (q + 1) = l.take q ++ [b]) := by unfold Hid; rw [ztake_snoc l q (by have := HN.out; omega), hb]
      clear hb
      obtain ⟨g, hg⟩ : ∃ g, rnA (l.take q) = g := ⟨_, rfl⟩
      have HE := hid hg
      rw [hg] at HG
      clear hg
      have hS := sa_of HG.out.gb.inW ca
      have HNe : Hid (wr.heap.size ≠ w.heap.size + 1 ∧ wr.heap.size ≠ (a.add (q * 5)).block) := ⟨by have := HG.out.gb.lt; omega, by have := ca.lt; omega⟩
      have HLa := hid ca.lt
      clear ca
      go_upto_region 6 with fail
      go_cut [7, 8] from 16 to 24 (fun s7 s8 wx => ∃ (p : Nat) (x1 : Gv), s7 = .pointer (some ⟨p, 0, none⟩) ∧ s8 = .int .i64 (adE g b) ∧ Hid (Hg wx p x1 (adA g b)) ∧ Hid (wr.heap.size ≤ p) ∧ Hid (Below wr.heap.size wr wx))
      case first =>
        go_region_held3 (SA (w.heap.size + 1) x (a.add (q * 5)) b) (first | with_reducible assumption | with_reducible exact sa_drew hS | with_reducible exact sa_alloc hS _ | with_reducible exact sa_drew (sa_alloc hS _) | with_reducible exact HS1.out | with_reducible exact sa_drew HS1.out | with_reducible exact sa_alloc HS1.out _ | with_reducible exact sa_drew (sa_alloc HS1.out _) | with_reducible exact sa_three HS1.out HNe.out.1 HNe.out.2 _ _ _ | with_reducible exact sa_drew (sa_three HS1.out HNe.out.1 HNe.out.2 _ _ _) | fail)
          (first
            | (go_at_call 12; refine (radd_any x g b _ (by first | exact HG.out.has | exact HG.out.has.below (Below.refl _ wr).drew | exact HG.out.has.below (alloc_below wr _) | exact HG.out.has.below (alloc_below wr _).drew)).mono ?_; rintro e w1 ⟨x1, rfl, h1, b1⟩; have B1 : Hid (Below wr.heap.size wr w1) := (by first | exact b1 | exact q_trans (Below.refl _ wr).drew b1 | exact q_trans (alloc_below wr _) b1 | exact q_trans (alloc_below wr _).drew b1); have HS1 : Hid (SA (w.heap.size + 1) x (a.add (q * 5)) b w1) := sa_keep hS B1.out; have H1 := hid h1; (try (have HZ : Hid (Gb w1 wr.heap.size nilG) := (by first | exact (gb_new wr nilG).below b1 | exact (gb_new wr.drew nilG).below b1); obtain ⟨y0, y1, y2, y3, y4, y5⟩ := HZ.out.inW; have hlz := HZ.out.lt)); clear b1 h1)
            | fail)
        all_goals (try go_wp2_with fail)
        all_goals go_meet
        all_goals first
          | exact ⟨w1.heap.size, x1, rfl, rfl, hg_new H1.out, B1.out.size, q_alloc B1.out _⟩
          | exact ⟨wr.heap.size, x1, rfl, rfl, hg_put HZ.out H1.out, Nat.le_refl _, put3_low B1.out (Nat.le_refl _)⟩
      case rest =>
        obtain ⟨p, x1, rfl, rfl, HG1, HP, HBc⟩ := hcut
        have HGo := hid (HG.out.below HBc.out)
        have HIo := hid (HI.out.below HBc.out)
        have HBw := hid (q_trans HB.out HBc.out)
        have HPn : Hid (p ≠ w.heap.size + 1) := by have := HG.out.gb.lt; have := HP.out; unfold Hid; omega
        clear hS HNe HLa HG HI HB HBc HP
        have HF := hid (hg_put HGo.out.gb HG1.out.has)
        have HF2 := hid (HIo.out.beside (p := w.heap.size + 1) (x' := x1) (by omega))
        have HF3 := hid (put3_low (x := x1) (p := w.heap.size + 1) HBw.out (by omega))
        obtain ⟨y0, y1, y2, y3, y4, y5⟩ := HG1.out.gb.inW
        obtain ⟨v0, v1, v2, v3, v4, v5⟩ := HGo.out.gb.inW
        by_cases h : adE g b = 0
        · rw [h]
          have HG2 : Hid (rnA (l.take (q + 1)) = adA g b) := by unfold Hid; rw [HT.out, rn_snoc, HE.out]
          have HC2 : Hid (c = rnN (l.take (q + 1))) := by
            unfold Hid
            rw [HT.out, rnN_yes (by rw [HE.out]; exact h)]
            exact HC.out
          clear h
          go_wp2_with fail
          go_roundw
          case rel => exact ⟨q + 1, c, x1, by omega, by go_num, rfl, by omega, HC2, by rw [HG2.out]; exact HF, HF2, HF3⟩
          case measure => simp [intOf]; omega
        · obtain ⟨v, hv⟩ : ∃ v, adE g b = v := ⟨_, rfl⟩
          have hv2 : (v != 0) = true := by rw [← hv]; simp [h]
          have HG2 : Hid (rnA (l.take (q + 1)) = adA g b) := by unfold Hid; rw [HT.out, rn_snoc, HE.out]
          have HC2 : Hid (c + 1 = rnN (l.take (q + 1))) := by
            unfold Hid
            rw [HT.out, rnN_no (by rw [HE.out]; exact h), ← HC.out]
          rw [hv]
          clear h hv
          go_wp2_with fail
          go_roundw
          case rel => exact ⟨q + 1, c + 1, x1, by omega, by go_num, by go_num, by omega, HC2, by rw [HG2.out]; exact HF, HF2, HF3⟩
          case measure => simp [intOf]; omega
    · obtain rfl : q = n := by omega
      have HE : Hid (l.take q = l) := by unfold Hid; rw [HN.out]; exact List.take_length
      rw [HE.out] at HG HC
      obtain ⟨y0, y1, y2, y3, y4, y5⟩ := HG.out.gb.inW
      obtain ⟨r0, r1, r2, s0, s1, s2⟩ := HI.out.inW
      have hlr : w.heap.size < wr.heap.size := HI.out.lt
      have hlp : w.heap.size + 1 < wr.heap.size := HG.out.gb.lt
      go_wp2_with fail
      exact bodyPost_ret (v := .tuple #[(.agg #[.slice x.k.o x.k.n x.k.c, .slice x.i.o x.i.n x.i.c, .slice x.f.o x.f.n x.f.c]), .int .i64 (c : Int)]) (by simp [results, Try.results26, go_sem, *]) rfl ⟨x, by rw [HC.out], HG.out.has.put (x' := x) HI.out, put3_low HB.out (Nat.le_refl _)⟩
end Go.Proofs.Ytcldnacpddebcaa.Gh
