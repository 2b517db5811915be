/- What the document's Same does of two like arenas. -/
import Derived.Test.YtnagpedkmfmniaaArSame
namespace Go.Proofs.Ytnagpedkmfmniaa.Ar
open Go.RowKit Go.Proofs.Ytnagpedkmfmniaa.Ha

abbrev S4 (a1 a2 a3 a4 : Addr) (u v z y : Value) (w : World) : Prop := w.cell? a1 = some u ∧ w.cell? a2 = some v ∧ w.cell? a3 = some z ∧ w.cell? a4 = some y
theorem s4_keep {w w' : World} {a1 a2 a3 a4 : Addr} {u v z y : Value} (hb : Below w.heap.size w w') (h : S4 a1 a2 a3 a4 u v z y w) : S4 a1 a2 a3 a4 u v z y w' := by
  have k : ∀ {a : Addr} {v : Value}, w.cell? a = some v → w'.cell? a = some v := fun h => (hb.cell (World.block_lt_of_cell? w _ h)).trans h
  exact ⟨k h.1, k h.2.1, k h.2.2.1, k h.2.2.2⟩
theorem s4_drew {w : World} {a1 a2 a3 a4 : Addr} {u v z y : Value} (h : S4 a1 a2 a3 a4 u v z y w) : S4 a1 a2 a3 a4 u v z y w.drew := s4_keep (Below.refl _ _).drew h
set_option maxRecDepth 100000 in
set_option maxHeartbeats 2000000 in
/-- THE DOCUMENT's SAME, OF THE SAME ARENA TWICE. -/
theorem rsame_yes (x y : Wh) (a : Ar) (w : World) (HS : Hid (Sm a)) (HA : Hid (HasA w x a)) (HB : Hid (HasA w y a)) :
    Calls Try.prog 13 #[(.agg #[.slice x.t.o x.t.n x.t.c, .slice x.f.o x.f.n x.f.c]), (.agg #[.slice y.t.o y.t.n y.t.c, .slice y.f.o y.f.n y.f.c])] w fun e w' => e = .returned (.bool true) ∧ Below w.heap.size w w' := by
  have hn : x.t.n ≤ 1000 := by rw [HA.out.tn]; exact HS.out.t
  have hn2 : x.f.n ≤ 1000 := by rw [HA.out.fn]; exact HS.out.f
  have hl : y.t.n = x.t.n := by rw [HA.out.tn, HB.out.tn]
  have hl2 : y.f.n = x.f.n := by rw [HA.out.fn, HB.out.fn]
  have HT := hid (tw_new w x y)
  obtain ⟨⟨xo, tn, tc⟩, ⟨fo, fn, fc⟩⟩ := x
  obtain ⟨⟨yo, ytn, ytc⟩, ⟨yfo, yfn, yfc⟩⟩ := y
  have hl : ytn = tn := hl
  subst hl
  have hl2 : yfn = fn := hl2
  subst hl2
  have HFN : Hid (yfn = a.fr.length) := HA.out.fn
  go_enter Try.func13, Try.ntmps13
  go_wp2
  go_loopw [5] (fun i wr => ∃ k : Nat, k ≤ ytn ∧ i = .int .i64 k ∧ Hid (Tw w wr ⟨⟨xo, ytn, tc⟩, ⟨fo, yfn, fc⟩⟩ ⟨⟨yo, ytn, ytc⟩, ⟨yfo, yfn, yfc⟩⟩)) (fun i _ => ytn - (intOf i).toNat)
  case atStart => exact ⟨0, Nat.zero_le _, rfl, HT⟩
  case round =>
    obtain ⟨k, hk, rfl, HG⟩ := hrel
    obtain ⟨c0, c1, cf⟩ := HG.out.b1
    obtain ⟨d0, d1, df⟩ := HG.out.b2
    by_cases hlt : k < ytn
    · have i1 : (0 : Int) ≤ (k : Int) := by omega
      have i2 : (k : Int) < (ytn : Int) := by omega
      obtain ⟨ta, e, ca⟩ := (HA.out.below HG.out.low).t.at_ k hlt
      have e : xo = some ta := e
      subst e
      obtain ⟨tb, e, cb⟩ := (HB.out.below HG.out.low).t.at_ k hlt
      have e : yo = some tb := e
      subst e
      obtain ⟨t, ht⟩ : ∃ t, a.ts.getD k Th.zero = t := ⟨_, rfl⟩
      rw [ht] at ca cb
      clear ht
      obtain ⟨a0, a1, a2, a3, a4, a5, a6, a7⟩ := ca
      obtain ⟨b0, b1, b2, b3, b4, b5, b6, b7⟩ := cb
      have q := eq8_yes t
      go_wp2
      go_quiet (fail)
      go_wp2
      go_roundw
      case rel => exact ⟨k + 1, by omega, by go_num, HG.out.below (q_drewN (Below.refl _ _) _)⟩
      case measure => simp [intOf]; omega
    · obtain rfl : k = ytn := by omega
      go_wp2
      clear c0 c1 cf d0 d1 df
      go_loopw [6] (fun i wr => ∃ j : Nat, j ≤ yfn ∧ i = .int .i64 j ∧ Hid (Tw w wr ⟨⟨xo, k, tc⟩, ⟨fo, yfn, fc⟩⟩ ⟨⟨yo, k, ytc⟩, ⟨yfo, yfn, yfc⟩⟩)) (fun i _ => yfn - (intOf i).toNat)
      case atStart => exact ⟨0, Nat.zero_le _, rfl, HG⟩
      case round =>
        obtain ⟨j, hj, rfl, HG⟩ := hrel
        obtain ⟨c0, c1, cf⟩ := HG.out.b1
        obtain ⟨d0, d1, df⟩ := HG.out.b2
        by_cases hlt : j < yfn
        · have i1 : (0 : Int) ≤ (j : Int) := by omega
          have i2 : (j : Int) < (yfn : Int) := by omega
          have HJ : Hid (j < a.fr.length) := by have := HFN.out; exact (by omega : j < a.fr.length)
          obtain ⟨fa, o1, m1, x1, e, ca, hA⟩ := (HA.out.below HG.out.low).list j HJ.out
          have e : fo = some fa := e
          subst e
          obtain ⟨fb, o2, m2, x2, e, cb, hB⟩ := (HB.out.below HG.out.low).list j HJ.out
          have e : yfo = some fb := e
          subst e
          have hm : m2 = m1 := by rw [hA.len, hB.len]
          subst hm
          have CI := hid (fun W' (b : Below wr.heap.size wr W') => ints_yes o1 o2 m2 x1 x2 (a.fr.getD j []) W' (by have := hA.len; have := HS.out.e j; omega) (hA.below b) (hB.below b))
          clear hA hB
          go_wp2_with fail
          have hS : S4 ⟨w.heap.size, 1, none⟩ ⟨w.heap.size + 1, 1, none⟩ (fa.add j) (fb.add j) (.slice (some fa) yfn fc) (.slice (some fb) yfn yfc) (.slice o1 m2 x1) (.slice o2 m2 x2) wr := ⟨c1, d1, ca, cb⟩
          go_region_held3 (S4 ⟨w.heap.size, 1, none⟩ ⟨w.heap.size + 1, 1, none⟩ (fa.add j) (fb.add j) (.slice (some fa) yfn fc) (.slice (some fb) yfn yfc) (.slice o1 m2 x1) (.slice o2 m2 x2)) (first | with_reducible assumption | with_reducible exact HS3.out | with_reducible exact s4_drew hS)
            (first
              | (go_at_call 30; refine (CI.out _ (by first | exact (Below.refl _ wr).drew | exact Below.refl _ _)).mono ?_; rintro e w3 ⟨rfl, b⟩; have HB3 : Hid (Below wr.heap.size wr w3) := (by first | exact b | exact q_trans (Below.refl _ wr).drew b); have HS3 : Hid (S4 ⟨w.heap.size, 1, none⟩ ⟨w.heap.size + 1, 1, none⟩ (fa.add j) (fb.add j) (.slice (some fa) yfn fc) (.slice (some fb) yfn yfc) (.slice o1 m2 x1) (.slice o2 m2 x2) w3) := (s4_keep HB3.out hS)))
          have HG2 := hid (HG.out.below HB3.out)
          clear HB3 HS3 hS c0 c1 cf d0 d1 df ca cb b
          go_wp2_with fail
          go_roundw
          case rel => exact ⟨j + 1, by omega, by go_num, HG2⟩
          case measure => simp [intOf]; omega
        · obtain rfl : j = yfn := by omega
          go_wp2
          go_ret
          exact ⟨rfl, HG.out.low⟩
end Go.Proofs.Ytnagpedkmfmniaa.Ar
