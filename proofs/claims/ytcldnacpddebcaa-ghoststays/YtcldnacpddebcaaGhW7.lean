/- What the program's befall does. -/
import Derived.Test.YtcldnacpddebcaaGhW3
import Derived.Test.YtcldnacpddebcaaGhW4
import Derived.Test.YtcldnacpddebcaaGhW5
import Derived.Test.YtcldnacpddebcaaGhW6
namespace Go.Proofs.Ytcldnacpddebcaa.Gh
open Go.RowKit
open Go.Proofs.Ytcldnacpddebcaa.Tr

/-- What befall promises. -/
abbrev Fell (B p : Nat) (g : Gt) (w : World) (e : Ending) (w' : World) : Prop := e = .returned (.tuple #[]) ∧ (∃ y' : Gv, Og w' B p y' g) ∧ Below B w w'
theorem Ok.n4 {g : Gt} (h : Ok g) {w : World} {B p : Nat} {y : Gv} (o : Og w B p y g) : y.k.n ≤ 4096 ∧ y.i.n ≤ 4096 ∧ y.f.n ≤ 4096 ∧ y.k.n = y.i.n := by
  have h1 := h.few
  have h2 := h.max
  have h3 := h.len
  have h4 := o.ks.1
  have h5 := o.is.1
  have h6 := o.fr.1
  omega
set_option maxRecDepth 100000 in
set_option maxHeartbeats 2000000 in
theorem befall_root (B p : Nat) (y : Gv) (g : Gt) (key fm : P) (w : World) (hB : B ≤ w.heap.size) (hp : B ≤ p) (h4 : y.k.n ≤ 4096 ∧ y.i.n ≤ 4096 ∧ y.f.n ≤ 4096 ∧ y.k.n = y.i.n) (HO : Hid (Og w B p y g)) :
    Calls Try.prog 38 #[.pointer (some ⟨p, 0, none⟩), .agg #[.int .i64 1, .int .i64 key.1, .int .i64 key.2, .int .i64 fm.1, .int .i64 fm.2]] w (Fell B p ⟨g.ks ++ [key], g.is ++ [(g.fr.length : Int)], g.fr ++ [-1]⟩ w) := by
  have H4 := hid h4
  clear h4
  have HP := hid hp
  have HB := hid hB
  clear hp hB
  go_enter Try.func38, Try.ntmps38
  go_wp2_with fail
  have HB0 := hid (alloc_below w (.cells #[.int .i64 1, .int .i64 key.1, .int .i64 key.2, .int .i64 fm.1, .int .i64 fm.2] 29))
  refine (bear_any B p y g key (-1) _ (Nat.le_trans HB.out HB0.out.size) HP.out H4.out.1 H4.out.2.1 H4.out.2.2.1 (HO.out.below HB0.out)).mono ?_
  rintro e w1 ⟨rfl, h1, b1⟩
  have H1 := hid h1
  have B1 : Hid (Below B w w1) := (HB0.out.mono HB.out).trans b1
  clear h1 b1 HB0
  go_wp2_with fail
  exact bodyPost_end (v := .tuple #[]) (by simp [results, Try.results38, go_sem]) rfl ⟨rfl, H1.out, B1.out⟩
set_option maxRecDepth 100000 in
set_option maxHeartbeats 2000000 in
theorem befall_derive (B p : Nat) (y : Gv) (g : Gt) (key fm : P) (v : Int) (w : World) (hB : B ≤ w.heap.size) (hp : B ≤ p) (h4 : y.k.n ≤ 4096 ∧ y.i.n ≤ 4096 ∧ y.f.n ≤ 4096 ∧ y.k.n = y.i.n) (hv : who g fm = some v) (HO : Hid (Og w B p y g)) :
    Calls Try.prog 38 #[.pointer (some ⟨p, 0, none⟩), .agg #[.int .i64 2, .int .i64 key.1, .int .i64 key.2, .int .i64 fm.1, .int .i64 fm.2]] w (Fell B p ⟨g.ks ++ [key], g.is ++ [(g.fr.length : Int)], g.fr ++ [v]⟩ w) := by
  have H4 := hid h4
  clear h4
  have HP := hid hp
  have HB := hid hB
  clear hp hB
  have HV : Hid (whI g fm = v ∧ whB g fm = true) := ⟨by simp [whI, hv], by simp [whB, hv]⟩
  clear hv
  go_enter Try.func38, Try.ntmps38
  go_wp2_with fail
  have HZ := hid (atZ_new w ⟨2, key, fm⟩ 29)
  have HB0 := hid (alloc_below w (.cells #[.int .i64 2, .int .i64 key.1, .int .i64 key.2, .int .i64 fm.1, .int .i64 fm.2] 29))
  generalize w.alloc (.cells #[.int .i64 2, .int .i64 key.1, .int .i64 key.2, .int .i64 fm.1, .int .i64 fm.2] 29) = W at HZ HB0 ⊢
  have HO1 := hid (HO.out.below HB0.out)
  have C1 : Hid (∀ X, Below W.heap.size W X → Calls Try.prog 18 #[(.agg #[.slice y.k.o y.k.n y.k.c, .slice y.i.o y.i.n y.i.c, .slice y.f.o y.f.n y.f.c]), (.agg #[.int .i64 fm.1, .int .i64 fm.2])] X fun e w' => e = .returned (.tuple #[.int .i64 v, .bool true]) ∧ Below X.heap.size X w') := fun X q => by
    have h := pwho_any y g fm X (by have := H4.out; omega) (HO1.out.has.below q)
    rwa [HV.out.1, HV.out.2] at h
  obtain ⟨c0, c1, c2⟩ := HO1.out.box.inG.always
  obtain ⟨z0, z1, z2, z3, z4⟩ := HZ.out.always
  have hne : Nonempty (Later W) := ⟨⟨_, Below.refl _ _⟩⟩
  refine wp_region_later (by kernel_rfl) (by kernel_rfl) ?_
  repeat (go_big_quiet_step (first | (go_at_call 18; with_reducible exact later_call (C1.out _ (Later.low _)))))
  refine wpQuiet_nil ?_
  rintro w9 ⟨⟨_, b9⟩, rfl⟩
  have HO9 := hid (HO1.out.below b9)
  have HZ9 := hid (HZ.out.below b9)
  have HB9 := hid (q_trans HB0.out b9)
  clear b9 c0 c1 c2 z0 z1 z2 z3 z4 hne C1 HO1 HZ HB0
  obtain ⟨z0, z1, z2, z3, z4⟩ := HZ9.out
  go_wp2_with fail
  refine (bear_any B p y g key v _ (Nat.le_trans HB.out HB9.out.size) HP.out H4.out.1 H4.out.2.1 H4.out.2.2.1 HO9).mono ?_
  rintro e w1 ⟨rfl, h1, b1⟩
  have H1 := hid h1
  have B1 : Hid (Below B w w1) := (HB9.out.mono HB.out).trans b1
  clear h1 b1 HB9 z0 z1 z2 z3 z4
  go_wp2_with fail
  exact bodyPost_end (v := .tuple #[]) (by simp [results, Try.results38, go_sem]) rfl ⟨rfl, H1.out, B1.out⟩
end Go.Proofs.Ytcldnacpddebcaa.Gh
