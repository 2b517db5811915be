/- What the document's find and Who (of ghosts) do. -/
import Derived.Test.YtcldnacpddebcaaPkB
import Derived.Test.YtcldnacpddebcaaPkA
namespace Go.Proofs.Ytcldnacpddebcaa.Gh
open Go.RowKit
open Go.Proofs.Ytcldnacpddebcaa.Tr

/-- The place of a key, or -1. -/
def fkI (k : P) (l : List P) : Int := match fk k l with
  | some i => (i : Int)
  | none => -1
theorem fkI_some {k : P} {l : List P} {i : Nat} (h : fk k l = some i) : fkI k l = i := by simp [fkI, h]
theorem fkI_none {k : P} {l : List P} (h : fk k l = none) : fkI k l = -1 := by simp [fkI, h]
/-- Two boxes, one behind the other: a ghost's and a key's. -/
theorem gk_new (w : World) (y : Gv) (k : P) (t u : TypeId) : InG ((w.alloc (.cells #[.slice y.k.o y.k.n y.k.c, .slice y.i.o y.i.n y.i.c, .slice y.f.o y.f.n y.f.c] t)).alloc (.cells #[.int .i64 k.1, .int .i64 k.2] u)) w.heap.size y ∧ AtP ((w.alloc (.cells #[.slice y.k.o y.k.n y.k.c, .slice y.i.o y.i.n y.i.c, .slice y.f.o y.f.n y.f.c] t)).alloc (.cells #[.int .i64 k.1, .int .i64 k.2] u)) ⟨w.heap.size + 1, 0, none⟩ k ∧ Below w.heap.size w ((w.alloc (.cells #[.slice y.k.o y.k.n y.k.c, .slice y.i.o y.i.n y.i.c, .slice y.f.o y.f.n y.f.c] t)).alloc (.cells #[.int .i64 k.1, .int .i64 k.2] u)) := by
  refine ⟨(inG_new w y t).below (alloc_below _ _), ?_, q_alloc (alloc_below _ _) _⟩
  have h := at_new (w.alloc (.cells #[.slice y.k.o y.k.n y.k.c, .slice y.i.o y.i.n y.i.c, .slice y.f.o y.f.n y.f.c] t)) k u
  rwa [show (w.alloc (.cells #[.slice y.k.o y.k.n y.k.c, .slice y.i.o y.i.n y.i.c, .slice y.f.o y.f.n y.f.c] t)).heap.size = w.heap.size + 1 by simp] at h
set_option maxRecDepth 100000 in
set_option maxHeartbeats 1000000 in
theorem gfind_any (y : Gv) (t : List P) (k : P) (w : World) (hs : y.k.n ≤ 9223372036854775806) (HH : Hid (HasP w y.k.o y.k.n y.k.c t)) :
    Calls Try.prog 40 #[(.agg #[.slice y.k.o y.k.n y.k.c, .slice y.i.o y.i.n y.i.c, .slice y.f.o y.f.n y.f.c]), (.agg #[.int .i64 k.1, .int .i64 k.2])] w fun e w' => e = .returned (.int .i64 (fkI k t)) ∧ Below w.heap.size w w' := by
  have HN := hid HH.out.len
  go_enter Try.func40, Try.ntmps40
  go_wp2_with fail
  obtain ⟨g1, g2, g3⟩ := gk_new w y k 25 27
  have HG0 := hid g1
  have HK0 := hid g2
  have HB0 := hid g3
  clear g1 g2 g3
  generalize (w.alloc (.cells #[.slice y.k.o y.k.n y.k.c, .slice y.i.o y.i.n y.i.c, .slice y.f.o y.f.n y.f.c] 25)).alloc (.cells #[.int .i64 k.1, .int .i64 k.2] 27) = W0 at HG0 HK0 HB0 ⊢
  go_loopw [5] (fun i wr => ∃ q : Nat, q ≤ y.k.n ∧ i = .int .i64 q ∧ Hid (∀ m, m < q → Kk t m ≠ k) ∧ Hid (InG wr w.heap.size y) ∧ Hid (AtP wr ⟨w.heap.size + 1, 0, none⟩ k) ∧ Hid (Below w.heap.size w wr)) (fun i _ => y.k.n - (intOf i).toNat)
  case atStart => exact ⟨0, Nat.zero_le _, rfl, fun c hc => absurd hc (by omega), HG0, HK0, HB0⟩
  case round =>
    obtain ⟨q, hq, rfl, HU, HG, HK, HB⟩ := hrel
    clear HG0 HK0 HB0
    obtain ⟨z0, z1, z2⟩ := HG.out
    by_cases hlt : q < y.k.n
    · have i1 : (0 : Int) ≤ (q : Int) := by omega
      have i2 : (q : Int) < (y.k.n : Int) := by omega
      obtain ⟨c0, c1, c2⟩ := HG.out.always
      obtain ⟨a, ea, ca⟩ := (HH.out.below HB.out).at q hlt
      obtain ⟨x, hx⟩ : ∃ x, t.getD q (0, 0) = x := ⟨_, rfl⟩
      have HX := hid hx
      rw [ea] at c0 z0
      obtain ⟨f0, f1⟩ := ca.always
      rw [hx] at f0 f1
      obtain ⟨k0, k1⟩ := HK.out.always
      have hne : Nonempty (Later wr) := ⟨⟨_, Below.refl _ _⟩⟩
      clear ca hx ea
      by_cases e : x = k
      · have HE : Hid (fk k t = some q) := fk_some.2 ⟨by have := HN.out; omega, by rw [← e]; exact HX.out, HU.out⟩
        have ee := eqk_yes e
        clear e
        go_wp2_with fail
        refine wp_region_later (by kernel_rfl) (by kernel_rfl) ?_
        repeat (go_big_quiet_step (fail))
        refine wpQuiet_nil ?_
        rintro w9 ⟨⟨_, b9⟩, rfl⟩
        have HB9 := hid (q_trans HB.out b9)
        clear b9 f0 f1 k0 k1 hne ee c0 c1 c2 z0 z1 z2
        go_wp2_with fail
        go_ret
        exact ⟨ret_int (fkI_some HE.out).symm, HB9.out⟩
      · have HE := hid e
        have ee := eqk_no e
        clear e
        go_wp2_with fail
        refine wp_region_later (by kernel_rfl) (by kernel_rfl) ?_
        repeat (go_big_quiet_step (fail))
        refine wpQuiet_nil ?_
        rintro w9 ⟨⟨_, b9⟩, rfl⟩
        have HB9 := hid (q_trans HB.out b9)
        have HG9 := hid (HG.out.below b9)
        have HK9 := hid (HK.out.below b9)
        clear b9 f0 f1 k0 k1 hne ee c0 c1 c2 z0 z1 z2
        go_wp2_with fail
        go_roundw
        case rel =>
          refine ⟨q + 1, by omega, by go_num, fun m hm => ?_, HG9, HK9, HB9⟩
          rcases Nat.lt_or_ge m q with r | r
          · exact HU.out m r
          · obtain rfl : m = q := by omega
            unfold Kk
            rw [HX.out]
            exact HE.out
        case measure => simp [intOf]; omega
    · obtain rfl : q = y.k.n := by omega
      have HE : Hid (fk k t = none) := fk_none.2 fun j hj => HU.out j (by have := HN.out; omega)
      go_wp2_with fail
      go_ret
      exact ⟨ret_int (fkI_none HE.out).symm, HB.out⟩
set_option maxRecDepth 100000 in
set_option maxHeartbeats 1000000 in
/-- Who: WHO IS IN A SLOT. -/
theorem rwho_any (y : Gv) (g : Gt) (k : P) (w : World) (hs : y.k.n ≤ 9223372036854775806) (HH : Hid (HasG w y g)) :
    Calls Try.prog 19 #[(.agg #[.slice y.k.o y.k.n y.k.c, .slice y.i.o y.i.n y.i.c, .slice y.f.o y.f.n y.f.c]), (.agg #[.int .i64 k.1, .int .i64 k.2])] w fun e w' => e = .returned (.tuple #[.int .i64 (whI g k), .bool (whB g k)]) ∧ Below w.heap.size w w' := by
  have HI := hid HH.out.is.len
  go_enter Try.func19, Try.ntmps19
  go_wp2_with fail
  obtain ⟨g1, g2, g3⟩ := gk_new w y k 25 27
  have HG := hid g1
  have HB := hid g3
  clear g2
  refine (gfind_any y g.ks k _ hs (HH.out.ks.below g3)).mono ?_
  clear g1 g3
  rintro e w1 ⟨rfl, b1⟩
  replace HB := hid (q_trans HB.out b1)
  replace HG := hid (HG.out.below b1)
  clear b1
  obtain ⟨c0, c1, c2⟩ := HG.out
  cases hk : fk k g.ks with
  | none =>
    rw [fkI_none hk]
    have HE : Hid (who g k = none) := who_no hk
    clear hk
    go_wp2_with fail
    go_ret2
    exact ⟨by simp [whI, whB, HE.out], HB.out⟩
  | some i =>
    rw [fkI_some hk]
    have i0 : ¬ (i : Int) < 0 := by omega
    by_cases hi : i < y.i.n
    · have HE : Hid (who g k = some (g.is.getD i 0)) := by
        have h : i < g.is.length := by have := HI.out; omega
        show (fk k g.ks).bind _ = _
        rw [hk]
        simp [List.getD, h]
      clear hk
      obtain ⟨a, ea, ca⟩ := (HH.out.is.below HB.out).cell i hi
      rw [ea] at c1
      obtain ⟨x, hx⟩ : ∃ x, g.is.getD i 0 = x := ⟨_, rfl⟩
      rw [hx] at ca
      have HX := hid hx
      clear hx ea
      have i1 : ¬ (i : Int) ≥ (y.i.n : Int) := by omega
      have i2 : (0 : Int) ≤ (i : Int) := by omega
      have i3 : (i : Int) < (y.i.n : Int) := by omega
      go_wp2_with fail
      go_ret2
      exact ⟨by rw [← HX.out]; simp [whI, whB, HE.out], HB.out⟩
    · have HE : Hid (who g k = none) := by
        have h : g.is.length ≤ i := by have := HI.out; omega
        show (fk k g.ks).bind _ = _
        rw [hk]
        simp [h]
      clear hk
      have i1 : (i : Int) ≥ (y.i.n : Int) := by omega
      go_wp2_with fail
      go_ret2
      exact ⟨by simp [whI, whB, HE.out], HB.out⟩
end Go.Proofs.Ytcldnacpddebcaa.Gh
