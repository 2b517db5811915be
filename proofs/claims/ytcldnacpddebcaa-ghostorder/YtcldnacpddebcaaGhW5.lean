/- What the program's bear does. -/
import Derived.Test.YtcldnacpddebcaaGhOg
import Derived.Deep.Cut
import Derived.Deep.CutRange
import Derived.Deep.RegionLaw
namespace Go.Proofs.Ytcldnacpddebcaa.Gh
open Go.RowKit
open Go.Proofs.Ytcldnacpddebcaa.Tr

set_option maxRecDepth 100000 in
set_option maxHeartbeats 4000000 in
/-- bear: ONE MORE. -/
theorem bear_any (B p : Nat) (y : Gv) (g : Gt) (k : P) (v : Int) (w : World) (hB : B ≤ w.heap.size) (hp : B ≤ p) (hk : y.k.n ≤ 4096) (hi : y.i.n ≤ 4096) (hf : y.f.n ≤ 4096) (HO : Hid (Og w B p y g)) :
    Calls Try.prog 60 #[.pointer (some ⟨p, 0, none⟩), (.agg #[.int .i64 k.1, .int .i64 k.2]), .int .i64 v] w fun e w' => e = .returned (.tuple #[]) ∧ (∃ z : Gv, Og w' B p z ⟨g.ks ++ [k], g.is ++ [(g.fr.length : Int)], g.fr ++ [v]⟩) ∧ Below B w w' := by
  have HP := hid hp
  clear hp
  go_enter Try.func60, Try.ntmps60
  go_wp2_with fail
  have HK0 := hid (at_new w k 27)
  have HB0 := hid (alloc_below w (.cells #[.int .i64 k.1, .int .i64 k.2] 27))
  generalize w.alloc (.cells #[.int .i64 k.1, .int .i64 k.2] 27) = W at HK0 HB0 ⊢
  have HO1 := hid (HO.out.below HB0.out)
  have HBW : Hid (B ≤ W.heap.size) := Nat.le_trans hB HB0.out.size
  have hpl : p < W.heap.size := HO1.out.box.lt
  obtain ⟨c0, c1, c2, f0, f1, f2⟩ := HO1.out.box
  obtain ⟨k0, k1⟩ := HK0.out
  have HQ : Hid (∀ (W' w3 : World), Below W.heap.size W W' → W'.grownBy w3 (obk y.k) → w3.cell? ⟨p, 0, none⟩ = some (.slice y.k.o y.k.n y.k.c) ∧ w3.frozen? ⟨p, 0, none⟩ = false) := fun W' w3 b grow => by
    have h := HO1.out.box.kept (grow_kept b grow) (fun s => HO1.out.kp s.symm)
    exact ⟨h.c0, h.f0⟩
  go_upto_region 1 with fail
  go_cut [13] from 6 to 15 (fun s13 wx => ∃ (gb cap : Nat), s13 = .slice (some ⟨gb, 0, none⟩) (y.k.n + 1) cap ∧ Hid (Og wx B p ⟨⟨some ⟨gb, 0, none⟩, y.k.n + 1, cap⟩, y.i, y.f⟩ ⟨g.ks ++ [k], g.is, g.fr⟩) ∧ Hid (Below B W wx))
  case first =>
    go_region_law
      ((refine step_key _ (by rfl) (.tmp 10) (.tmp 12) (by rfl) B (.slice y.k.o y.k.n y.k.c) y.k.n g.ks (by rfl) (HO1.out.ks.2.drew.alloc _) ⟨W.heap.size, 0, none⟩ k (by rfl) (one_pair W.drew k 27) (by omega) (by have := HBW.out; simp; omega) ?_; intro gb cap3 w3 own3 grow3 at3; have q1 := (HQ.out _ _ (q_alloc (Below.refl _ W).drew _) grow3).1; have q2 := (HQ.out _ _ (q_alloc (Below.refl _ W).drew _) grow3).2))
    all_goals (try go_wp2_with fail)
    all_goals go_meet
    all_goals
      have hfin := HO1.out.addK HBW.out HP.out (q_alloc (Below.refl _ W) _).drew grow3 own3 (by have := HO1.out.ks.1; simp; omega) at3
      exact ⟨gb, cap3, rfl, hfin.1, hfin.2⟩
  case rest =>
    obtain ⟨gb, cap, rfl, HO2, HB2⟩ := hcut
    clear HQ c0 c1 c2 f0 f1 f2 k0 k1 HK0 hpl
    have HBw : Hid (Below B w wc) := (HB0.out.mono hB).trans HB2.out
    have HBW2 : Hid (B ≤ wc.heap.size) := Nat.le_trans HBW.out HB2.out.size
    have hpl : p < wc.heap.size := HO2.out.box.lt
    obtain ⟨c0, c1, c2, f0, f1, f2⟩ := HO2.out.box
    have HQ : Hid (∀ (W' w3 : World), Below wc.heap.size wc W' → W'.grownBy w3 (obk y.i) → w3.cell? ⟨p, 1, none⟩ = some (.slice y.i.o y.i.n y.i.c) ∧ w3.frozen? ⟨p, 1, none⟩ = false) := fun W' w3 b grow => by
      have h := HO2.out.box.kept (grow_kept b grow) (fun s => HO2.out.ip s.symm)
      exact ⟨h.c1, h.f1⟩
    go_upto_region 2 with fail
    obtain ⟨wb, hwb⟩ : ∃ wb, wb = wc := ⟨_, rfl⟩
    subst hwb
    go_cut [27] from 16 to 29 (fun s27 wx => ∃ (gi ci : Nat), s27 = .slice (some ⟨gi, 0, none⟩) (y.i.n + 1) ci ∧ Hid (Og wx B p ⟨⟨some ⟨gb, 0, none⟩, y.k.n + 1, cap⟩, ⟨some ⟨gi, 0, none⟩, y.i.n + 1, ci⟩, y.f⟩ ⟨g.ks ++ [k], g.is ++ [(g.fr.length : Int)], g.fr⟩) ∧ Hid (Below B wb wx))
    case first =>
      go_region_law
        ((refine step_int _ (by rfl) (.tmp 20) (.tmp 26) (by rfl) B (.slice y.i.o y.i.n y.i.c) y.i.n g.is (by rfl) (HO2.out.is.2.drew.alloc _) ⟨wb.heap.size, 0, none⟩ (y.f.n : Int) (by rfl) (one_int wb.drew (y.f.n : Int) 3) (by omega) (by have := HBW2.out; simp; omega) ?_; intro gi ci w3 own3 grow3 at3; have q1 := (HQ.out _ _ (q_alloc (Below.refl _ wb).drew _) grow3).1; have q2 := (HQ.out _ _ (q_alloc (Below.refl _ wb).drew _) grow3).2))
      all_goals (try go_wp2_with fail)
      all_goals go_meet
      all_goals
        rw [show (y.f.n : Int) = (g.fr.length : Int) by have := HO.out.fr.1; omega] at own3
        have hfin := HO2.out.addI HBW2.out HP.out (q_alloc (Below.refl _ wb) _).drew grow3 own3 (by have := HO.out.is.1; simp; omega) at3
        exact ⟨gi, ci, rfl, hfin.1, hfin.2⟩
    case rest =>
      obtain ⟨gi, ci, rfl, HO3, HB3⟩ := hcut
      clear HQ c0 c1 c2 f0 f1 f2 hpl
      have HBw3 : Hid (Below B w wc) := HBw.out.trans HB3.out
      have HBW3 : Hid (B ≤ wc.heap.size) := Nat.le_trans HBW2.out HB3.out.size
      have hpl : p < wc.heap.size := HO3.out.box.lt
      obtain ⟨c0, c1, c2, f0, f1, f2⟩ := HO3.out.box
      have HQ : Hid (∀ (W' w3 : World), Below wc.heap.size wc W' → W'.grownBy w3 (obk y.f) → w3.cell? ⟨p, 2, none⟩ = some (.slice y.f.o y.f.n y.f.c) ∧ w3.frozen? ⟨p, 2, none⟩ = false) := fun W' w3 b grow => by
        have h := HO3.out.box.kept (grow_kept b grow) (fun s => HO3.out.fp s.symm)
        exact ⟨h.c2, h.f2⟩
      go_wp2_with (at_builtin; go_loud (refine list_int _ rfl (.tmp 34) (.tmp 36) rfl B (.slice y.f.o y.f.n y.f.c) y.f.n g.fr rfl (HO3.out.fr.2.alloc _) ⟨wc.heap.size, 0, none⟩ v rfl (one_int wc v 3) (by omega) (by have := HBW3.out; simp; omega) ?_; intro gf cf w3 own3 grow3 at3; apply Hid.out))
      have q1 := (HQ.out _ _ (alloc_below wc _) grow3).1
      have q2 := (HQ.out _ _ (alloc_below wc _) grow3).2
      have HF := hid (HO3.out.addF HBW3.out HP.out (alloc_below wc _) grow3 own3 (by have := HO.out.fr.1; simp; omega) at3)
      clear own3 grow3 at3 HQ c0 c1 c2 f0 f1 f2
      unfold Hid
      go_wp2_with fail
      exact bodyPost_end (v := .tuple #[]) (by simp [results, Try.results60, go_sem]) rfl ⟨rfl, ⟨_, HF.out.1⟩, HBw3.out.trans HF.out.2⟩
end Go.Proofs.Ytcldnacpddebcaa.Gh
