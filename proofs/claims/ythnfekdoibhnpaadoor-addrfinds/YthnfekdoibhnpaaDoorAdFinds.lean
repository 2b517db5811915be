/- AddrFinds. -/
import Derived.Test.YthnfekdoibhnpaaDoorAdLive
import Derived.Test.YthnfekdoibhnpaaDoorAdRFnd
namespace Go.Proofs.YthnfekdoibhnpaaDoor.Ad
open Go.RowKit
open Cp (K)

set_option maxRecDepth 100000 in
set_option maxHeartbeats 2000000 in
theorem finds_any (to : Option Addr) (m cap' : Nat) (t : List (List K)) (r : K) (ao : Option Addr) (n cap : Nat) (l : List P) (k : P) (w : World) (hN : HasN w to m cap' t) (hL : HasP w ao n cap l) (hT : Cp.Tabs w) :
    Calls Tryd.prog 4 #[.slice to m cap', (.agg #[.int .i64 r.t, .int .i64 r.r, .int .i64 r.b, .int .i64 r.o, .int .i64 r.g]), .slice ao n cap, (.agg #[.int .i64 k.1, .int .i64 k.2])] w fun e w' => e = .returned (.bool true) ∧ Below w.heap.size w w' := by
  have HN := hid hN
  have HL := hid hL
  have HT := hid hT
  clear hN hL hT
  go_enter Tryd.func4, Tryd.ntmps4
  go_wp2_with fail
  have B0 := hid (q_alloc (alloc_below w (.cells #[.int .i64 r.t, .int .i64 r.r, .int .i64 r.b, .int .i64 r.o, .int .i64 r.g] 41)) (.cells #[.int .i64 k.1, .int .i64 k.2] 43))
  have R0 : Hid (AtK ((w.alloc (.cells #[.int .i64 r.t, .int .i64 r.r, .int .i64 r.b, .int .i64 r.o, .int .i64 r.g] 41)).alloc (.cells #[.int .i64 k.1, .int .i64 k.2] 43)) ⟨w.heap.size, 0, none⟩ r) := (atK_new w r 41).below (alloc_below _ _)
  have K0 : Hid (AtP ((w.alloc (.cells #[.int .i64 r.t, .int .i64 r.r, .int .i64 r.b, .int .i64 r.o, .int .i64 r.g] 41)).alloc (.cells #[.int .i64 k.1, .int .i64 k.2] 43)) ⟨w.heap.size + 1, 0, none⟩ k) := by
    have := at_new (w.alloc (.cells #[.int .i64 r.t, .int .i64 r.r, .int .i64 r.b, .int .i64 r.o, .int .i64 r.g] 41)) k 43
    unfold Hid
    simpa using this
  generalize (w.alloc (.cells #[.int .i64 r.t, .int .i64 r.r, .int .i64 r.b, .int .i64 r.o, .int .i64 r.g] 41)).alloc (.cells #[.int .i64 k.1, .int .i64 k.2] 43) = W0 at B0 R0 K0 ⊢
  refine (small_any to ao m n cap cap' t W0 (HN.out.below B0.out)).mono ?_
  rintro e w1 ⟨b, rfl, hb, b1⟩
  have B1 := hid (q_trans B0.out b1)
  have R1 := hid (R0.out.below b1)
  have K1 := hid (K0.out.below b1)
  clear b1 B0 R0 K0
  cases b with
  | false =>
    clear hb
    go_wp2_with fail
    refine (live_any _ (HT.out.below B1.out)).mono ?_
    rintro e w2 ⟨rfl, b2⟩
    go_wp2_with fail
    go_ret
    exact ⟨rfl, q_trans B1.out b2⟩
  | true =>
    clear hb
    obtain ⟨c0, c1, c2, c3, c4⟩ := R1.out
    go_wp2_with fail
    refine (pFind_any to ao m n cap cap' t r l w1 (HT.out.below B1.out) (HN.out.below B1.out) (HL.out.below B1.out)).mono ?_
    rintro e w2 ⟨po, pn, pc, rfl, h2, b2⟩
    generalize hka : fndK t r l = ka
    generalize hfe : fndE t r l = fe
    have HKA := hid hka
    have HFE := hid hfe
    have D2 := hid (alloc_below w2 (.cells #[.int .i64 ka.1, .int .i64 ka.2] 43))
    have P2 := hid (h2.below D2.out)
    have B2 := hid (q_trans (q_trans B1.out b2) D2.out)
    have R2 := hid ((R1.out.below b2).below D2.out)
    have K2 := hid ((K1.out.below b2).below D2.out)
    have A2 := hid (at_new w2 ka 43)
    clear b2 h2 B1 R1 K1 c0 c1 c2 c3 c4 hka hfe
    obtain ⟨c0, c1, c2, c3, c4⟩ := R2.out
    go_wp2_with fail
    refine (rFind_any to ao m n cap cap' t r l _ (HN.out.below B2.out) (HL.out.below B2.out)).mono ?_
    rintro e w3 ⟨qo, qn, qc, rfl, h3, b3⟩
    rw [HKA.out, HFE.out]
    have D3 := hid (alloc_below w3 (.cells #[.int .i64 ka.1, .int .i64 ka.2] 43))
    have P3 := hid ((P2.out.below b3).below D3.out)
    have Q3 := hid (h3.below D3.out)
    have B3 := hid (q_trans (q_trans B2.out b3) D3.out)
    have K3 := hid ((K2.out.below b3).below D3.out)
    have A3 := hid ((A2.out.below b3).below D3.out)
    have E3 := hid (at_new w3 ka 43)
    generalize w2.heap.size = ab at A2 A3 ⊢
    clear b3 h3 B2 R2 K2 P2 A2 D2 c0 c1 c2 c3 c4
    obtain ⟨c0, c1⟩ := K3.out
    go_wp2_with fail
    refine (pGet_any to m cap' t k _ (HN.out.below B3.out)).mono ?_
    rintro e w4 ⟨rfl, b4⟩
    generalize hgc : getC t k = gc
    generalize hgb : slB t k = gb
    have HGC := hid hgc
    have HGB := hid hgb
    have D4 := hid (alloc_below w4 (.cells #[.int .i64 gc.t, .int .i64 gc.r, .int .i64 gc.b, .int .i64 gc.o, .int .i64 gc.g] 41))
    have P4 := hid ((P3.out.below b4).below D4.out)
    have Q4 := hid ((Q3.out.below b4).below D4.out)
    have B4 := hid (q_trans (q_trans B3.out b4) D4.out)
    have K4 := hid ((K3.out.below b4).below D4.out)
    have A4 := hid ((A3.out.below b4).below D4.out)
    have E4 := hid ((E3.out.below b4).below D4.out)
    have C4 := hid (atK_new w4 gc 41)
    generalize w3.heap.size = eb at E3 E4 ⊢
    clear b4 B3 K3 P3 Q3 A3 E3 D3 c0 c1 hgc hgb
    obtain ⟨c0, c1⟩ := K4.out
    go_wp2_with fail
    refine (rGet_any to m cap' t k _ (HN.out.below B4.out)).mono ?_
    rintro e w5 ⟨rfl, b5⟩
    rw [HGC.out, HGB.out]
    have D5 := hid (alloc_below w5 (.cells #[.int .i64 gc.t, .int .i64 gc.r, .int .i64 gc.b, .int .i64 gc.o, .int .i64 gc.g] 41))
    have P5 := hid ((P4.out.below b5).below D5.out)
    have Q5 := hid ((Q4.out.below b5).below D5.out)
    have B5 := hid (q_trans (q_trans B4.out b5) D5.out)
    have A5 := hid ((A4.out.below b5).below D5.out)
    have E5 := hid ((E4.out.below b5).below D5.out)
    have C5 := hid ((C4.out.below b5).below D5.out)
    have F5 := hid (atK_new w5 gc 41)
    generalize w4.heap.size = cb at C4 C5 ⊢
    clear b5 B4 K4 P4 Q4 A4 E4 C4 D4 c0 c1
    have HPn : Hid (pn ≤ 9223372036854775806) := by
      have h1 := P5.out.len
      have h2 : (fndL t r l).length ≤ 4 := by
        unfold fndL
        split
        · rename_i h; rw [wayL_len]; exact okA_le (fndB_iff.1 h).1
        · simp
      unfold Hid; omega
    have HSm : Hid (Calls Tryd.prog 23 #[.slice po pn pc, .slice qo qn qc] (w5.alloc (.cells #[.int .i64 gc.t, .int .i64 gc.r, .int .i64 gc.b, .int .i64 gc.o, .int .i64 gc.g] 41)) fun e w' => e = .returned (.bool true) ∧ Below (w5.alloc (.cells #[.int .i64 gc.t, .int .i64 gc.r, .int .i64 gc.b, .int .i64 gc.o, .int .i64 gc.g] 41)).heap.size (w5.alloc (.cells #[.int .i64 gc.t, .int .i64 gc.r, .int .i64 gc.b, .int .i64 gc.o, .int .i64 gc.g] 41)) w') := ksame_yes HPn.out P5.out Q5.out
    have q1 := eqk_yes (a := ka) (b := ka) rfl
    have q2 := eqc_yes gc
    obtain ⟨a0, a1⟩ := A5.out
    obtain ⟨e0, e1⟩ := E5.out
    go_wp2_with fail
    refine HSm.out.mono ?_
    rintro e w6 ⟨rfl, b6⟩
    have B6 := hid (q_trans B5.out b6)
    have C6 := hid (C5.out.below b6)
    have F6 := hid (F5.out.below b6)
    clear b6 B5 C5 F5 P5 Q5 A5 E5 a0 a1 e0 e1 HSm q1
    obtain ⟨c0, c1, c2, c3, c4⟩ := C6.out
    obtain ⟨d0, d1, d2, d3, d4⟩ := F6.out
    go_wp2_with (go_at_call 14; refine (num_any _ _).mono ?_; rintro e w9 ⟨rfl, rfl⟩)
    refine (live_any _ (HT.out.below B6.out)).mono ?_
    rintro e w7 ⟨rfl, b7⟩
    have B7 := hid (q_trans B6.out b7)
    clear b7
    go_wp2_with fail
    go_ret
    exact ⟨rfl, B7.out⟩
end Go.Proofs.YthnfekdoibhnpaaDoor.Ad
