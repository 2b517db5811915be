/- ArenaStates: what follows an arena that may be may be, and how places turn. -/
import Derived.Test.YtnagpedkmfmniaaArActs
namespace Go.Proofs.Ytnagpedkmfmniaa.Ar
open Go.RowKit Go.Proofs.Ytnagpedkmfmniaa.Ha

/-- At each round: the arena in the box. -/
structure As (w W : World) (b0 : Nat) (x : Wh) (a : Ar) (i : Nat) : Prop where
  low : Below w.heap.size w W
  bo : Ba W b0 x a
  ok : Ok a
  rb : RefB a (1000000000 + 100 * i)
/-- Within a round: the arena, and the one that follows. -/
structure Rd (w W : World) (b0 : Nat) (y : Wh) (a : Ar) (cb : Nat) (v : Wh) (a2 : Ar) : Prop where
  low : Below w.heap.size w W
  bo : Ba W b0 y a
  bv : Bo W cb v a2
theorem Rd.below {w W W' : World} {b0 cb : Nat} {y v : Wh} {a a2 : Ar} (h : Rd w W b0 y a cb v a2) (k : Below W.heap.size W W') : Rd w W' b0 y a cb v a2 := ⟨q_trans h.low k, h.bo.below k, h.bv.below k⟩
set_option maxRecDepth 100000 in
set_option maxHeartbeats 8000000 in
theorem states_any (x : Wh) (a : Ar) (ao : Option Addr) (l : List Ac) (n c : Nat) (w : World) (HH : Hid (HasA w x a)) (hn : n ≤ 9223372036854775807) (HC : Hid (HasC w ao n l)) :
    Calls Try.prog 6 #[(.agg #[.slice x.t.o x.t.n x.t.c, .slice x.f.o x.f.n x.f.c]), .slice ao n c] w fun e w' => e = .returned (.bool true) ∧ Below w.heap.size w w' := by
  have HB := hid (bx_new w x)
  have HBk := hid (ba_new HH.out)
  go_enter Try.func6, Try.ntmps6
  go_wp2_with fail
  generalize w.alloc _ = W at HB HBk ⊢
  refine (small_any x a _ (HH.out.below HB.out.low)).mono ?_
  rintro e w1 ⟨⟨b, rfl, hb⟩, b1⟩
  replace HB := hid (HB.out.below b1)
  have HLW := hid b1
  clear b1
  cases b with
  | false =>
    clear hb
    go_wp2_with fail
    refine (live9_any _).mono ?_
    rintro e w2 ⟨rfl, b2⟩
    have HL := hid (q_trans HB.out.low b2)
    clear b2
    go_wp2_with fail
    go_ret
    exact ⟨rfl, HL.out⟩
  | true =>
    have HSB := hid (hb rfl)
    clear hb
    by_cases h100 : n ≤ 100
    · have n100 : (n : Int) ≤ 100 := by omega
      obtain ⟨c0, c1, cf⟩ := HB.out.box
      go_wp2_with fail
      refine (check_any x a _ HSB.out.sm (HH.out.below HB.out.low)).mono ?_
      rintro e w2 ⟨rfl, b2⟩
      replace HB := hid (HB.out.below b2)
      have HLW := hid (q_trans HLW.out b2)
      clear b2 c0 c1 cf
      by_cases hok : Ok a
      · rw [chk_yes hok]
        have HO := hid hok
        clear hok
        go_wp2_with fail
        refine (num_any 0 _).mono ?_
        rintro e w3 ⟨rfl, hw⟩; rw [hw]; clear hw w3
        go_wp2_with fail
        have HA := hid ((⟨HB.out.low, HBk.out.below HLW.out, HO.out, fun k hk => by have := HSB.out.r k hk; omega⟩ : As w w2 w.heap.size x a 0))
        clear HB HBk HLW HO HSB HH
        go_loopw [5] (fun i wr => ∃ (k : Nat) (y : Wh) (b : Ar), k ≤ n ∧ i = .int .i64 k ∧ Hid (As w wr w.heap.size y b k)) (fun i _ => n - (intOf i).toNat)
        case atStart => exact ⟨0, x, a, Nat.zero_le _, rfl, HA⟩
        case round =>
          clear HA
          obtain ⟨k, y, a1, hk, rfl, HG⟩ := hrel
          by_cases hlt : k < n
          · have i1 : (0 : Int) ≤ (k : Int) := by omega
            have i2 : (k : Int) < (n : Int) := by omega
            obtain ⟨la, rfl, hz⟩ := HC.out.at_ k hlt
            obtain ⟨z, hz2⟩ : ∃ z, l.getD k Ac.zero = z := ⟨_, rfl⟩
            rw [hz2] at hz
            have HBL := hid (World.block_lt_of_cell? w _ hz.1)
            have HZ := hid (atC_below hz HG.out.low)
            clear hz hz2
            have CD := hid (fun W' (b : Below wr.heap.size wr W') => does_any y a1 z W' (small_of HG.out.ok) (fun q hq => by have := HG.out.rb q hq; omega) (HG.out.bo.has.below b))
            obtain ⟨E, hE⟩ : ∃ E, doE a1 z = E := ⟨_, rfl⟩
            rw [hE] at CD
            have HE := hid hE
            clear hE
            have HINA := hid HG.out.bo.inA
            obtain ⟨p0, p1, pf⟩ := HINA.out
            have hlt2 : w.heap.size < wr.heap.size := HINA.out.lt
            obtain ⟨z0, z1, z2, z3, z4, z5, z6, z7, z8, z9, za, zb⟩ := HZ.out
            go_upto_region 6 with fail
            go_cut [6, 7, 8] from 28 to 123 (fun s6 s7 s8 wx => ∃ (b : Nat) (v : Wh), s6 = .pointer (some ⟨b, 0, none⟩) ∧ s8 = .int .i64 E ∧ Hid (Bo wx b v (doA a1 z)) ∧ Hid (Below wr.heap.size wr wx))
            case first =>
              have hS : SX w.heap.size y (la.add (k * 12)) z wr := ⟨⟨p0, p1⟩, HZ.out⟩
              go_region_held3 (SX w.heap.size y (la.add (k * 12)) z) (first | with_reducible assumption | with_reducible exact HS3.out | with_reducible exact sx_alloc HS3.out | with_reducible exact sx_two HS3.out HNC.out | with_reducible exact sx_drew hS | with_reducible exact sx_alloc (sx_drew hS) | exact sx_alloc hS)
                (first
                  | (go_at_call 21; refine (CD.out _ (by first | exact (Below.refl _ wr).drew | exact q_alloc (Below.refl _ wr).drew _)).mono ?_; rintro e w3 ⟨v, rfl, h3, b⟩; have HO3 : Hid (HasO w3 v (doA a1 z)) := h3; have HB3 : Hid (Below wr.heap.size wr w3) := (by first | exact q_trans (Below.refl _ wr).drew b | exact q_trans (q_alloc (Below.refl _ wr).drew _) b); have HS3 : Hid (SX w.heap.size y (la.add (k * 12)) z w3) := (sx_keep HB3.out hS); (try (have HZ3 : Hid (Zr w3 wr.heap.size) := ((zr_newd wr).below b); obtain ⟨u0, u1, uf⟩ := HZ3.out.inA; have HNC : Hid (w.heap.size ≠ wr.heap.size ∧ (la.add (k * 12)).block ≠ wr.heap.size) := (⟨Nat.ne_of_lt hlt2, Nat.ne_of_lt (Nat.lt_trans HBL.out hlt2)⟩))); clear h3))
              all_goals (try go_wp2_with fail)
              all_goals go_meet
              all_goals first
                | exact ⟨_, v, rfl, rfl, bo_new HO3.out, q_alloc HB3.out _⟩
                | exact ⟨_, v, rfl, rfl, bo_put HO3.out HZ3.out, low_put HB3.out (Nat.le_refl _)⟩
            case rest =>
              obtain ⟨cb, v, rfl, rfl, HV, HBc⟩ := hcut
              have HR := hid ((⟨q_trans HG.out.low HBc.out, HG.out.bo.below HBc.out, HV.out⟩ : Rd w wc w.heap.size y a1 cb v (doA a1 z)))
              have HOK1 := hid HG.out.ok
              have HOK2 := hid (do_ok z HG.out.ok)
              have HRB := hid HG.out.rb
              clear p0 p1 pf z0 z1 z2 z3 z4 z5 z6 z7 z8 z9 za zb HZ HINA hlt2 HV HBc CD HG
              have HTN1 := hid HR.out.bo.has.tn
              have HTN2 : Hid (v.t.n = a1.ts.length) := HR.out.bv.has.has.tn.trans (do_len a1 z).1
              go_upto_region 7 with fail
              go_cut [66] from 28 to 123 (fun s66 wx => s66 = .bool false ∧ Hid (Rd w wx w.heap.size y a1 cb v (doA a1 z)))
              case first =>
                obtain ⟨p0, p1, pf⟩ := HR.out.bo.inA
                obtain ⟨q0, q1, qf⟩ := HR.out.bv.box
                go_wp2_with fail
                refine (check_any v (doA a1 z) _ (small_of HOK2.out) HR.out.bv.has.has).mono ?_
                rintro e v1 ⟨rfl, k1⟩
                rw [chk_yes HOK2.out]
                replace HR := hid (HR.out.below k1)
                clear k1 p0 p1 pf q0 q1 qf
                obtain ⟨p0, p1, pf⟩ := HR.out.bo.inA
                obtain ⟨q0, q1, qf⟩ := HR.out.bv.box
                have e1 : ((v.t.n : Int) == (y.t.n : Int)) = true := beq_of (by rw [HTN1.out, HTN2.out])
                have e2 : ((v.t.n : Int) != (y.t.n : Int)) = false := by rw [bne, e1]; rfl
                go_wp2_with fail
                refine (num_any 0 _).mono ?_
                rintro e w3 ⟨rfl, hw⟩; rw [hw]; clear hw w3
                by_cases hE : E = 0
                · have e3 := beq_of hE
                  have e4 : (E != 0) = false := by rw [bne, e3]; rfl
                  clear hE
                  go_wp2_with fail
                  go_meet
                  exact ⟨rfl, HR⟩
                · have e3 := bne_of hE
                  have e4 : (E != 0) = true := by rw [bne, e3]; rfl
                  have HN := hid (do_no (a := a1) (x := z) (by rw [HE.out]; exact hE))
                  clear hE
                  go_wp2_with fail
                  refine (rsame_yes y v a1 _ (small_of HOK1.out) HR.out.bo.has (by have := HR.out.bv.has.has; rwa [HN.out] at this)).mono ?_
                  rintro e v2 ⟨rfl, k2⟩
                  replace HR := hid (HR.out.below k2)
                  clear k2
                  go_wp2_with fail
                  go_meet
                  exact ⟨rfl, HR⟩
              case rest =>
                obtain ⟨rfl, HRc⟩ := hcut
                clear HR
                have hN : y.t.n ≤ 64 := by rw [HTN1.out]; exact HOK1.out.t1
                go_wp2_with fail
                go_loopw [9, 10] (fun t p wr => ∃ (q : Nat) (T : Int), q ≤ y.t.n ∧ p = .int .i64 q ∧ t = .int .i64 T ∧ 0 ≤ T ∧ T ≤ 1 ∧ Hid (T = 0 ∨ touch a1 z < (q : Int)) ∧ Hid (Rd w wr w.heap.size y a1 cb v (doA a1 z))) (fun t p _ => y.t.n - (intOf p).toNat)
                case atStart => exact ⟨0, 0, Nat.zero_le _, rfl, rfl, by omega, by omega, .inl rfl, HRc⟩
                case round =>
                  clear HRc
                  obtain ⟨q, T, hq, rfl, rfl, hT0, hT1, HTT, HR⟩ := hrel
                  by_cases hlt3 : q < y.t.n
                  · have j1 : (0 : Int) ≤ (q : Int) := by omega
                    have j2 : (q : Int) < (y.t.n : Int) := by omega
                    have hcase0 := True.intro
                    rcases do_st a1 z (q : Int) with hs | ⟨ht, hturn⟩
                    · clear hcase0
                      have CS1 := hid (fun W' (b : Below wr.heap.size wr W') => state_any y a1 (q : Int) W' HOK1 (HR.out.bo.has.below b))
                      have CS2 := hid (fun W' (b : Below wr.heap.size wr W') => state_any v (doA a1 z) (q : Int) W' HOK2 (HR.out.bv.has.has.below b))
                      rw [hs] at CS2
                      generalize stT (stN a1 (q : Int)) = str at CS1 CS2
                      clear hs
                      obtain ⟨p0, p1, pf⟩ := HR.out.bo.inA
                      obtain ⟨q0, q1, qf⟩ := HR.out.bv.box
                      go_wp2_with fail
                      have HDR : Hid (Below wr.heap.size wr wr.drew) := (Below.refl _ wr).drew
                      have hS : S4 ⟨w.heap.size, 0, none⟩ ⟨w.heap.size, 1, none⟩ ⟨cb, 0, none⟩ ⟨cb, 1, none⟩ (.slice y.t.o y.t.n y.t.c) (.slice y.f.o y.f.n y.f.c) (.slice v.t.o v.t.n v.t.c) (.slice v.f.o v.f.n v.f.c) wr := ⟨p0, p1, q0, q1⟩
                      go_region_held3 (S4 ⟨w.heap.size, 0, none⟩ ⟨w.heap.size, 1, none⟩ ⟨cb, 0, none⟩ ⟨cb, 1, none⟩ (.slice y.t.o y.t.n y.t.c) (.slice y.f.o y.f.n y.f.c) (.slice v.t.o v.t.n v.t.c) (.slice v.f.o v.f.n v.f.c)) (first | with_reducible assumption | with_reducible exact HS5.out | with_reducible exact HS4.out | with_reducible exact s4_drew hS)
                        (first
                          | (go_at_call 19; refine (CS2.out _ HB4.out).mono ?_; rintro e w5 ⟨rfl, b⟩; have HB5 : Hid (Below wr.heap.size wr w5) := (q_trans HB4.out b); have HS5 : Hid (S4 ⟨w.heap.size, 0, none⟩ ⟨w.heap.size, 1, none⟩ ⟨cb, 0, none⟩ ⟨cb, 1, none⟩ (.slice y.t.o y.t.n y.t.c) (.slice y.f.o y.f.n y.f.c) (.slice v.t.o v.t.n v.t.c) (.slice v.f.o v.f.n v.f.c) w5) := (s4_keep HB5.out hS))
                          | (go_at_call 19; refine (CS1.out _ HDR.out).mono ?_; rintro e w4 ⟨rfl, b⟩; have HB4 : Hid (Below wr.heap.size wr w4) := (by first | exact b | exact q_trans (Below.refl _ wr).drew b); have HS4 : Hid (S4 ⟨w.heap.size, 0, none⟩ ⟨w.heap.size, 1, none⟩ ⟨cb, 0, none⟩ ⟨cb, 1, none⟩ (.slice y.t.o y.t.n y.t.c) (.slice y.f.o y.f.n y.f.c) (.slice v.t.o v.t.n v.t.c) (.slice v.f.o v.f.n v.f.c) w4) := (s4_keep HB4.out hS))
                          | fail)
                      have HR2 := hid (HR.out.below HB5.out)
                      clear HS4 HS5 HB4 HB5 hS p0 p1 pf q0 q1 qf CS1 CS2
                      go_wp2_with fail
                      go_roundw
                      case rel => exact ⟨q + 1, T, by omega, by go_num, rfl, by omega, by omega, HTT.out.elim .inl (fun e => .inr (by omega)), HR2⟩
                      case measure => simp [intOf]; omega
                    · have HTO := hid ht
                      clear ht hcase0
                      rcases hturn with ⟨h1, h2⟩ | ⟨h1, h2 | ⟨h2, h3⟩⟩ | ⟨h1, h2⟩
                      · obtain rfl : T = 0 := by rcases HTT.out with e | e; exact e; exact absurd HTO.out (by omega)
                        have CS1 := hid (fun W' (b : Below wr.heap.size wr W') => state_any y a1 (q : Int) W' HOK1 (HR.out.bo.has.below b))
                        have CS2 := hid (fun W' (b : Below wr.heap.size wr W') => state_any v (doA a1 z) (q : Int) W' HOK2 (HR.out.bv.has.has.below b))
                        rw [h1, show stT 3 = ⟨#[102, 114, 101, 101]⟩ from rfl] at CS1
                        rw [h2, show stT 1 = ⟨#[108, 105, 118, 101]⟩ from rfl] at CS2
                        clear h1 h2
                        obtain ⟨p0, p1, pf⟩ := HR.out.bo.inA
                        obtain ⟨q0, q1, qf⟩ := HR.out.bv.box
                        go_wp2_with fail
                        have HDR : Hid (Below wr.heap.size wr wr.drew) := (Below.refl _ wr).drew
                        have hS : S4 ⟨w.heap.size, 0, none⟩ ⟨w.heap.size, 1, none⟩ ⟨cb, 0, none⟩ ⟨cb, 1, none⟩ (.slice y.t.o y.t.n y.t.c) (.slice y.f.o y.f.n y.f.c) (.slice v.t.o v.t.n v.t.c) (.slice v.f.o v.f.n v.f.c) wr := ⟨p0, p1, q0, q1⟩
                        go_region_held3 (S4 ⟨w.heap.size, 0, none⟩ ⟨w.heap.size, 1, none⟩ ⟨cb, 0, none⟩ ⟨cb, 1, none⟩ (.slice y.t.o y.t.n y.t.c) (.slice y.f.o y.f.n y.f.c) (.slice v.t.o v.t.n v.t.c) (.slice v.f.o v.f.n v.f.c)) (first | with_reducible assumption | with_reducible exact HS5.out | with_reducible exact HS4.out | with_reducible exact s4_drew hS)
                          (first
                            | (go_at_call 19; refine (CS2.out _ HB4.out).mono ?_; rintro e w5 ⟨rfl, b⟩; have HB5 : Hid (Below wr.heap.size wr w5) := (q_trans HB4.out b); have HS5 : Hid (S4 ⟨w.heap.size, 0, none⟩ ⟨w.heap.size, 1, none⟩ ⟨cb, 0, none⟩ ⟨cb, 1, none⟩ (.slice y.t.o y.t.n y.t.c) (.slice y.f.o y.f.n y.f.c) (.slice v.t.o v.t.n v.t.c) (.slice v.f.o v.f.n v.f.c) w5) := (s4_keep HB5.out hS))
                            | (go_at_call 19; refine (CS1.out _ HDR.out).mono ?_; rintro e w4 ⟨rfl, b⟩; have HB4 : Hid (Below wr.heap.size wr w4) := (by first | exact b | exact q_trans (Below.refl _ wr).drew b); have HS4 : Hid (S4 ⟨w.heap.size, 0, none⟩ ⟨w.heap.size, 1, none⟩ ⟨cb, 0, none⟩ ⟨cb, 1, none⟩ (.slice y.t.o y.t.n y.t.c) (.slice y.f.o y.f.n y.f.c) (.slice v.t.o v.t.n v.t.c) (.slice v.f.o v.f.n v.f.c) w4) := (s4_keep HB4.out hS))
                            | fail)
                        have HR2 := hid (HR.out.below HB5.out)
                        clear HS4 HS5 HB4 HB5 hS p0 p1 pf q0 q1 qf CS1 CS2
                        go_wp2_with fail
                        go_roundw
                        case rel => exact ⟨q + 1, 1, by omega, by go_num, rfl, by omega, by omega, .inr (by rw [← HTO.out]; omega), HR2⟩
                        case measure => simp [intOf]; omega
                      · obtain rfl : T = 0 := by rcases HTT.out with e | e; exact e; exact absurd HTO.out (by omega)
                        have CS1 := hid (fun W' (b : Below wr.heap.size wr W') => state_any y a1 (q : Int) W' HOK1 (HR.out.bo.has.below b))
                        have CS2 := hid (fun W' (b : Below wr.heap.size wr W') => state_any v (doA a1 z) (q : Int) W' HOK2 (HR.out.bv.has.has.below b))
                        rw [h1, show stT 1 = ⟨#[108, 105, 118, 101]⟩ from rfl] at CS1
                        rw [h2, show stT 4 = ⟨#[108, 105, 109, 98, 111]⟩ from rfl] at CS2
                        clear h1 h2
                        obtain ⟨p0, p1, pf⟩ := HR.out.bo.inA
                        obtain ⟨q0, q1, qf⟩ := HR.out.bv.box
                        go_wp2_with fail
                        have HDR : Hid (Below wr.heap.size wr wr.drew) := (Below.refl _ wr).drew
                        have hS : S4 ⟨w.heap.size, 0, none⟩ ⟨w.heap.size, 1, none⟩ ⟨cb, 0, none⟩ ⟨cb, 1, none⟩ (.slice y.t.o y.t.n y.t.c) (.slice y.f.o y.f.n y.f.c) (.slice v.t.o v.t.n v.t.c) (.slice v.f.o v.f.n v.f.c) wr := ⟨p0, p1, q0, q1⟩
                        go_region_held3 (S4 ⟨w.heap.size, 0, none⟩ ⟨w.heap.size, 1, none⟩ ⟨cb, 0, none⟩ ⟨cb, 1, none⟩ (.slice y.t.o y.t.n y.t.c) (.slice y.f.o y.f.n y.f.c) (.slice v.t.o v.t.n v.t.c) (.slice v.f.o v.f.n v.f.c)) (first | with_reducible assumption | with_reducible exact HS5.out | with_reducible exact HS4.out | with_reducible exact s4_drew hS)
                          (first
                            | (go_at_call 19; refine (CS2.out _ HB4.out).mono ?_; rintro e w5 ⟨rfl, b⟩; have HB5 : Hid (Below wr.heap.size wr w5) := (q_trans HB4.out b); have HS5 : Hid (S4 ⟨w.heap.size, 0, none⟩ ⟨w.heap.size, 1, none⟩ ⟨cb, 0, none⟩ ⟨cb, 1, none⟩ (.slice y.t.o y.t.n y.t.c) (.slice y.f.o y.f.n y.f.c) (.slice v.t.o v.t.n v.t.c) (.slice v.f.o v.f.n v.f.c) w5) := (s4_keep HB5.out hS))
                            | (go_at_call 19; refine (CS1.out _ HDR.out).mono ?_; rintro e w4 ⟨rfl, b⟩; have HB4 : Hid (Below wr.heap.size wr w4) := (by first | exact b | exact q_trans (Below.refl _ wr).drew b); have HS4 : Hid (S4 ⟨w.heap.size, 0, none⟩ ⟨w.heap.size, 1, none⟩ ⟨cb, 0, none⟩ ⟨cb, 1, none⟩ (.slice y.t.o y.t.n y.t.c) (.slice y.f.o y.f.n y.f.c) (.slice v.t.o v.t.n v.t.c) (.slice v.f.o v.f.n v.f.c) w4) := (s4_keep HB4.out hS))
                            | fail)
                        have HR2 := hid (HR.out.below HB5.out)
                        clear HS4 HS5 HB4 HB5 hS p0 p1 pf q0 q1 qf CS1 CS2
                        go_wp2_with fail
                        go_roundw
                        case rel => exact ⟨q + 1, 1, by omega, by go_num, rfl, by omega, by omega, .inr (by rw [← HTO.out]; omega), HR2⟩
                        case measure => simp [intOf]; omega
                      · obtain rfl : T = 0 := by rcases HTT.out with e | e; exact e; exact absurd HTO.out (by omega)
                        obtain ⟨ta, e, hAt⟩ := HR.out.bo.has.t.at_ q hlt3
                        have HT1 := hid hAt.c1
                        rw [show a1.ts.getD q Th.zero = at_ a1.ts (q : Int) from rfl, h3] at HT1
                        clear hAt h3
                        obtain ⟨⟨yo, yn, yc⟩, ⟨yfo, yfn, yfc⟩⟩ := y
                        have e : yo = some ta := e
                        subst e
                        have j2 : (q : Int) < (yn : Int) := j2
                        have hlt3 : q < yn := hlt3
                        have hq : q ≤ yn := hq
                        have hN : yn ≤ 64 := hN
                        have CS1 := hid (fun W' (b : Below wr.heap.size wr W') => state_any ⟨⟨some ta, yn, yc⟩, ⟨yfo, yfn, yfc⟩⟩ a1 (q : Int) W' HOK1 (HR.out.bo.has.below b))
                        have CS2 := hid (fun W' (b : Below wr.heap.size wr W') => state_any v (doA a1 z) (q : Int) W' HOK2 (HR.out.bv.has.has.below b))
                        rw [h1, show stT 1 = ⟨#[108, 105, 118, 101]⟩ from rfl] at CS1
                        rw [h2, show stT 2 = ⟨#[114, 101, 116, 105, 114, 101, 100]⟩ from rfl] at CS2
                        clear h1 h2
                        obtain ⟨p0, p1, pf⟩ := HR.out.bo.inA
                        obtain ⟨q0, q1, qf⟩ := HR.out.bv.box
                        go_wp2_with fail
                        have HDR : Hid (Below wr.heap.size wr wr.drew) := (Below.refl _ wr).drew
                        have hS : S4 ⟨w.heap.size, 0, none⟩ ⟨w.heap.size, 1, none⟩ ⟨cb, 0, none⟩ ⟨cb, 1, none⟩ (.slice (some ta) yn yc) (.slice yfo yfn yfc) (.slice v.t.o v.t.n v.t.c) (.slice v.f.o v.f.n v.f.c) wr := ⟨p0, p1, q0, q1⟩
                        go_region_held3 (S4 ⟨w.heap.size, 0, none⟩ ⟨w.heap.size, 1, none⟩ ⟨cb, 0, none⟩ ⟨cb, 1, none⟩ (.slice (some ta) yn yc) (.slice yfo yfn yfc) (.slice v.t.o v.t.n v.t.c) (.slice v.f.o v.f.n v.f.c)) (first | with_reducible assumption | with_reducible exact HS5.out | with_reducible exact HS4.out | with_reducible exact s4_drew hS)
                          (first
                            | (go_at_call 19; refine (CS2.out _ HB4.out).mono ?_; rintro e w5 ⟨rfl, b⟩; have HB5 : Hid (Below wr.heap.size wr w5) := (q_trans HB4.out b); have HS5 : Hid (S4 ⟨w.heap.size, 0, none⟩ ⟨w.heap.size, 1, none⟩ ⟨cb, 0, none⟩ ⟨cb, 1, none⟩ (.slice (some ta) yn yc) (.slice yfo yfn yfc) (.slice v.t.o v.t.n v.t.c) (.slice v.f.o v.f.n v.f.c) w5) := (s4_keep HB5.out hS))
                            | (go_at_call 19; refine (CS1.out _ HDR.out).mono ?_; rintro e w4 ⟨rfl, b⟩; have HB4 : Hid (Below wr.heap.size wr w4) := (by first | exact b | exact q_trans (Below.refl _ wr).drew b); have HS4 : Hid (S4 ⟨w.heap.size, 0, none⟩ ⟨w.heap.size, 1, none⟩ ⟨cb, 0, none⟩ ⟨cb, 1, none⟩ (.slice (some ta) yn yc) (.slice yfo yfn yfc) (.slice v.t.o v.t.n v.t.c) (.slice v.f.o v.f.n v.f.c) w4) := (s4_keep HB4.out hS))
                            | fail)
                        have HR2 := hid (HR.out.below HB5.out)
                        clear HS4 HS5 HB4 hS p0 p1 pf q0 q1 qf CS1 CS2
                        have t5 := (kept_below (S := fun _ => False) HB5.out).cell HT1.out (fun e => e)
                        obtain ⟨p0, p1, pf⟩ := HR2.out.bo.inA
                        clear HB5
                        go_wp2_with fail
                        go_roundw
                        case rel => exact ⟨q + 1, 1, by omega, by go_num, rfl, by omega, by omega, .inr (by rw [← HTO.out]; omega), HR2⟩
                        case measure => simp [intOf]; omega
                      · obtain rfl : T = 0 := by rcases HTT.out with e | e; exact e; exact absurd HTO.out (by omega)
                        have CS1 := hid (fun W' (b : Below wr.heap.size wr W') => state_any y a1 (q : Int) W' HOK1 (HR.out.bo.has.below b))
                        have CS2 := hid (fun W' (b : Below wr.heap.size wr W') => state_any v (doA a1 z) (q : Int) W' HOK2 (HR.out.bv.has.has.below b))
                        rw [h1, show stT 4 = ⟨#[108, 105, 109, 98, 111]⟩ from rfl] at CS1
                        rw [h2, show stT 3 = ⟨#[102, 114, 101, 101]⟩ from rfl] at CS2
                        clear h1 h2
                        obtain ⟨p0, p1, pf⟩ := HR.out.bo.inA
                        obtain ⟨q0, q1, qf⟩ := HR.out.bv.box
                        go_wp2_with fail
                        have HDR : Hid (Below wr.heap.size wr wr.drew) := (Below.refl _ wr).drew
                        have hS : S4 ⟨w.heap.size, 0, none⟩ ⟨w.heap.size, 1, none⟩ ⟨cb, 0, none⟩ ⟨cb, 1, none⟩ (.slice y.t.o y.t.n y.t.c) (.slice y.f.o y.f.n y.f.c) (.slice v.t.o v.t.n v.t.c) (.slice v.f.o v.f.n v.f.c) wr := ⟨p0, p1, q0, q1⟩
                        go_region_held3 (S4 ⟨w.heap.size, 0, none⟩ ⟨w.heap.size, 1, none⟩ ⟨cb, 0, none⟩ ⟨cb, 1, none⟩ (.slice y.t.o y.t.n y.t.c) (.slice y.f.o y.f.n y.f.c) (.slice v.t.o v.t.n v.t.c) (.slice v.f.o v.f.n v.f.c)) (first | with_reducible assumption | with_reducible exact HS5.out | with_reducible exact HS4.out | with_reducible exact s4_drew hS)
                          (first
                            | (go_at_call 19; refine (CS2.out _ HB4.out).mono ?_; rintro e w5 ⟨rfl, b⟩; have HB5 : Hid (Below wr.heap.size wr w5) := (q_trans HB4.out b); have HS5 : Hid (S4 ⟨w.heap.size, 0, none⟩ ⟨w.heap.size, 1, none⟩ ⟨cb, 0, none⟩ ⟨cb, 1, none⟩ (.slice y.t.o y.t.n y.t.c) (.slice y.f.o y.f.n y.f.c) (.slice v.t.o v.t.n v.t.c) (.slice v.f.o v.f.n v.f.c) w5) := (s4_keep HB5.out hS))
                            | (go_at_call 19; refine (CS1.out _ HDR.out).mono ?_; rintro e w4 ⟨rfl, b⟩; have HB4 : Hid (Below wr.heap.size wr w4) := (by first | exact b | exact q_trans (Below.refl _ wr).drew b); have HS4 : Hid (S4 ⟨w.heap.size, 0, none⟩ ⟨w.heap.size, 1, none⟩ ⟨cb, 0, none⟩ ⟨cb, 1, none⟩ (.slice y.t.o y.t.n y.t.c) (.slice y.f.o y.f.n y.f.c) (.slice v.t.o v.t.n v.t.c) (.slice v.f.o v.f.n v.f.c) w4) := (s4_keep HB4.out hS))
                            | fail)
                        have HR2 := hid (HR.out.below HB5.out)
                        clear HS4 HS5 HB4 HB5 hS p0 p1 pf q0 q1 qf CS1 CS2
                        go_wp2_with fail
                        go_roundw
                        case rel => exact ⟨q + 1, 1, by omega, by go_num, rfl, by omega, by omega, .inr (by rw [← HTO.out]; omega), HR2⟩
                        case measure => simp [intOf]; omega

                  · obtain ⟨p0, p1, pf⟩ := HR.out.bo.inA
                    obtain ⟨q0, q1, qf⟩ := HR.out.bv.box
                    have j2 : ¬ (q : Int) < (y.t.n : Int) := by omega
                    have HF := hid ((⟨low_put HR.out.low (Nat.le_refl _), ba_set HR.out.bo.blk HR.out.bv.has, HOK2.out, fun g hg => by have := do_refB z HRB.out (by omega) g hg; omega⟩ : As w ((wr.setCell ⟨w.heap.size, 0, none⟩ (.slice v.t.o v.t.n v.t.c)).setCell ⟨w.heap.size, 1, none⟩ (.slice v.f.o v.f.n v.f.c)) w.heap.size v (doA a1 z) (k + 1)))
                    go_wp2_with fail
                    go_roundw
                    case rel => exact ⟨k + 1, v, doA a1 z, by omega, by go_num, HF⟩
                    case measure => simp [intOf]; omega
          · obtain rfl : k = n := by omega
            go_wp2_with fail
            refine (live9_any _).mono ?_
            rintro e w4 ⟨rfl, b4⟩
            have HL := hid (q_trans HG.out.low b4)
            clear b4
            go_wp2_with fail
            go_ret
            exact ⟨rfl, HL.out⟩
      · rw [chk_no hok]
        clear hok
        go_wp2_with fail
        refine (num_any 2 _).mono ?_
        rintro e w3 ⟨rfl, hw⟩; rw [hw]; clear hw w3
        go_wp2_with fail
        refine (live9_any _).mono ?_
        rintro e w4 ⟨rfl, b4⟩
        have HL := hid (q_trans HB.out.low b4)
        clear b4
        go_wp2_with fail
        go_ret
        exact ⟨rfl, HL.out⟩
    · have n100 : (100 : Int) < (n : Int) := by omega
      go_wp2_with fail
      refine (live9_any _).mono ?_
      rintro e w2 ⟨rfl, b2⟩
      have HL := hid (q_trans HB.out.low b2)
      clear b2
      go_wp2_with fail
      go_ret
      exact ⟨rfl, HL.out⟩
end Go.Proofs.Ytnagpedkmfmniaa.Ar
