/- ArenaApart: no two cores are ever given one place; a place that comes again has another generation. -/
import Derived.Test.YtnagpedkmfmniaaArApB
namespace Go.Proofs.Ytnagpedkmfmniaa.Ar
open Go.RowKit Go.Proofs.Ytnagpedkmfmniaa.Ha

set_option maxRecDepth 100000 in
set_option maxHeartbeats 8000000 in
theorem apart_in (n m : Nat) (ao : Option Addr) (l : List Int) (k c : Nat) (w : World) (h1 : (1 : Int) ≤ (n : Int)) (h2 : (n : Int) ≤ 64) (h3 : (1 : Int) ≤ (m : Int)) (h4 : (m : Int) ≤ 64) (hk : (k : Int) ≤ 100) (HC : Hid (Has w ao k c l)) :
    Calls Try.prog 7 #[.int .i64 n, .int .i64 m, .slice ao k c] w fun e w' => e = .returned (.bool true) ∧ Below w.heap.size w w' := by
  go_enter Try.func7, Try.ntmps7
  go_wp2_with fail
  refine (new_yes n m _ h1 h2 h3 h4).mono ?_
  rintro e w1 ⟨y, rfl, hy, b1⟩
  have HQ : Hid (Aq w (w1.alloc (.cells #[.slice y.t.o y.t.n y.t.c, .slice y.f.o y.f.n y.f.c] 25)) w1.heap.size y (newA n m) [] [] ⟨none, 0, 0⟩ ⟨none, 0, 0⟩) :=
    ⟨q_alloc b1 _, heap_alloc_new w1 _, hy.below (alloc_below _ _), b1.size, World.ownsRow_nil _ _ _ _, World.ownsRow_nil _ _ _ _⟩
  have HM := hid (apt_start n m (by omega) (by omega) (by omega) (by omega))
  clear hy b1
  go_wp2_with fail
  generalize w1.alloc (.cells #[.slice y.t.o y.t.n y.t.c, .slice y.f.o y.f.n y.f.c] 25) = W at HQ ⊢
  generalize w1.heap.size = b0 at HQ ⊢
  refine (num_any 0 _).mono ?_
  rintro e w3 ⟨rfl, hw⟩; rw [hw]; clear hw w3
  go_wp2_with fail
  go_loopw [9, 10, 11] (fun s9 s10 s11 wr => ∃ (i : Nat) (y : Wh) (a : Ar) (pl : List Int) (sn : List Th) (P S : Hd), i ≤ k ∧ s11 = .int .i64 i ∧ s9 = .slice S.o S.n S.c ∧ s10 = .slice P.o P.n P.c ∧ P.n ≤ i ∧ S.n ≤ i ∧ Hid (Apt n m a pl sn) ∧ Hid (Aq w wr b0 y a pl sn P S)) (fun _ _ s11 _ => k - (intOf s11).toNat)
  case atStart => exact ⟨0, y, _, [], [], _, _, Nat.zero_le _, rfl, rfl, rfl, Nat.le_refl _, Nat.le_refl _, HM, HQ⟩
  case round =>
    clear HQ HM
    obtain ⟨W0, rfl⟩ : ∃ W0, W0 = wr := ⟨_, rfl⟩
    obtain ⟨i, y, a, pl, sn, ⟨Po, Pn, Pc⟩, ⟨So, Sn, Sc⟩, hi, rfl, rfl, rfl, hP, hS, HM, HG⟩ := hrel
    by_cases hlt : i < k
    · have i1 : (0 : Int) ≤ (i : Int) := by omega
      have i2 : (i : Int) < (k : Int) := by omega
      obtain ⟨la, rfl, hz⟩ := HC.out.cell i hlt
      obtain ⟨q, hq⟩ : ∃ q, l.getD i 0 = q := ⟨_, rfl⟩
      rw [hq] at hz
      have HBL := hid (World.block_lt_of_cell? w _ hz)
      have cl := (kept_below (S := fun _ => False) HG.out.low).cell hz (fun e => e)
      clear hz hq
      by_cases q0 : 0 ≤ q
      · by_cases q1 : q < (m : Int)
        · have CT := hid (fun W' (b : Below W0.heap.size W0 W') => take_litN y a q W' (small_of HM.out.ok) (HG.out.has.below b).has)
          have HE := hid (apt_full HM.out q q0 q1)
          obtain ⟨E, hE⟩ : ∃ E, takeE a q frameT = E := ⟨_, rfl⟩
          obtain ⟨P, hPp⟩ : ∃ P, takeP a q frameT = P := ⟨_, rfl⟩
          rw [hE, hPp] at CT
          have HTE := hid hE
          have HTP := hid hPp
          clear hE hPp
          have CF := hid frame_any
          obtain ⟨p0, p1, pf⟩ := HG.out.inA
          have hlt0 : b0 < W0.heap.size := HG.out.inA.lt
          have HBW : Hid ((la.add i).block < W0.heap.size) := Nat.lt_of_lt_of_le HBL.out HG.out.low.size
          go_upto_region 12 with fail
          go_cut [12, 13, 14] from 54 to 185 (fun s12 s13 s14 wx => ∃ (b : Nat) (v : Wh), s12 = .pointer (some ⟨b, 0, none⟩) ∧ s13 = .int .i64 P ∧ s14 = .int .i64 E ∧ W0.heap.size ≤ b ∧ Hid (Bn wx W0.heap.size b v (takeA a q frameT)) ∧ Hid (Below W0.heap.size W0 wx))
          case first =>
            have hS : SQ b0 y (la.add i) (.int .i64 q) W0 := ⟨⟨p0, p1⟩, cl⟩
            go_region_held3 (SQ b0 y (la.add i) (.int .i64 q)) (first | with_reducible assumption | with_reducible exact HS3.out | with_reducible exact sq_alloc HS3.out | with_reducible exact sq_two HS3.out HNC.out | with_reducible exact HS2.out | with_reducible exact sq_alloc HS2.out | with_reducible exact sq_drew hS | with_reducible exact sq_alloc (sq_drew hS) | exact sq_alloc hS)
              (first
                | (go_at_call 24; refine (CF.out _).mono ?_; rintro e w2 ⟨rfl, b⟩; have HB2 : Hid (Below W0.heap.size W0 w2) := (by first | exact q_trans (Below.refl _ W0).drew b | exact q_trans (q_alloc (Below.refl _ W0).drew _) b); have HS2 : Hid (SQ b0 y (la.add i) (.int .i64 q) w2) := (sq_keep HB2.out hS); (try (have HZ2 : Hid (Zr w2 W0.heap.size) := ((zr_newd W0).below b))))
                | (go_at_call 23; refine (CT.out _ (by first | exact HB2.out | exact q_alloc HB2.out _)).mono ?_; rintro e w3 ⟨y3, rfl, h3, b⟩; have HO3 := hid h3; have HB3 : Hid (Below w2.heap.size w2 w3) := (by first | exact b | exact q_trans (alloc_below _ _) b); have HS3 : Hid (SQ b0 y (la.add i) (.int .i64 q) w3) := (sq_keep HB3.out HS2.out); (try (first | (have HZ3 := hid (HZ2.out.below b); obtain ⟨z0, z1, zf⟩ := HZ3.out.inA; have HNC : Hid (b0 ≠ W0.heap.size ∧ (la.add i).block ≠ W0.heap.size) := (⟨Nat.ne_of_lt hlt0, Nat.ne_of_lt HBW.out⟩)) | (have HZ4 : Hid (Zr w3 w2.heap.size) := ((zr_new w2).below b); obtain ⟨z0, z1, zf⟩ := HZ4.out.inA; have HNC : Hid (b0 ≠ w2.heap.size ∧ (la.add i).block ≠ w2.heap.size) := (⟨Nat.ne_of_lt (Nat.lt_of_lt_of_le hlt0 HB2.out.size), Nat.ne_of_lt (Nat.lt_of_lt_of_le HBW.out HB2.out.size)⟩)))); clear h3)
                | fail)
            all_goals (try go_wp2_with fail)
            all_goals go_meet
            all_goals first
              | exact ⟨_, y3, rfl, rfl, rfl, (q_trans HB2.out HB3.out).size, bn_new HO3.out HB2.out.size, q_alloc (q_trans HB2.out HB3.out) _⟩
              | exact ⟨_, y3, rfl, rfl, rfl, HB2.out.size, bn_put HO3.out (q_alloc HB2.out _).size HZ4.out (by simp), low_put (q_trans HB2.out HB3.out) HB2.out.size⟩
              | exact ⟨_, y3, rfl, rfl, rfl, Nat.le_refl _, bn_put HO3.out HB2.out.size HZ3.out HZ2.out.inA.lt, low_put (q_trans HB2.out HB3.out) (Nat.le_refl _)⟩
          case rest =>
            obtain ⟨cb, v, rfl, rfl, rfl, hcb, HV, HBc⟩ := hcut
            clear p0 p1 pf CT CF
            rcases HE.out with hE | hE
            · obtain rfl : E = 0 := HTE.out.symm.trans hE
              obtain ⟨p, hp, hpn, hnp, hth, hsn, hApt⟩ := apt_take HM.out q hE
              obtain rfl : P = (p : Int) := HTP.out.symm.trans hp
              have HR := hid (ar2_of HG.out HBc.out HV.out hcb)
              have HAp := hid hApt
              have HNP := hid hnp
              have HTH := hid hth
              have HSN := hid hsn
              generalize (at_ a.ts (p : Int)).gen = gn at HTH HSN HAp
              clear hE hp hnp hth hsn hApt HV HBc HG HE HTE HTP HM
              obtain ⟨⟨vo, vn, vc⟩, ⟨vfo, vfn, vfc⟩⟩ := v
              have hvn : vn = n := HR.out.nb.hasO.has.tn.trans HAp.out.tl
              subst hvn
              have j1 : (0 : Int) ≤ (p : Int) := by omega
              have j2 : (p : Int) < (vn : Int) := by omega
              obtain ⟨c0, c1, cf⟩ := HR.out.nb.inA
              go_wp2_with fail
              refine (num_any 0 _).mono ?_
              rintro e w3 ⟨rfl, hw⟩; rw [hw]; clear hw w3
              go_wp2_with fail
              refine (num_any 0 _).mono ?_
              rintro e w3 ⟨rfl, hw⟩; rw [hw]; clear hw w3
              go_wp2_with fail
              clear c0 c1 cf
              go_loopw [22] (fun s22 wx => ∃ j : Nat, j ≤ Pn ∧ s22 = .int .i64 j ∧ Hid (Ar2 w wx W0.heap.size b0 cb y ⟨⟨vo, vn, vc⟩, ⟨vfo, vfn, vfc⟩⟩ (takeA a q frameT) pl sn ⟨Po, Pn, Pc⟩ ⟨So, Sn, Sc⟩)) (fun s22 _ => Pn - (intOf s22).toNat)
              case atStart => exact ⟨0, Nat.zero_le _, rfl, HR⟩
              case round =>
                clear HR
                obtain ⟨j, hj, rfl, HR⟩ := hrel
                by_cases hj2 : j < Pn
                · have k1 : (0 : Int) ≤ (j : Int) := by omega
                  have k2 : (j : Int) < (Pn : Int) := by omega
                  have hpl : j < pl.length := by have := HR.out.p.1; rw [len_vals] at this; simp only at this; omega
                  obtain ⟨pa, e, ca⟩ := (own_row HR.out.p).1.cell j _ (vals_at pl j hpl)
                  have e : Po = some pa := e
                  subst e
                  have ne : (pl.getD j 0 == (p : Int)) = false := bne_of (fun e => HNP.out (by rw [← e]; simp [List.getD, hpl]))
                  generalize pl.getD j 0 = u at ca ne
                  clear hpl
                  go_wp2_with fail
                  go_roundw
                  case rel => exact ⟨j + 1, by omega, by go_num, HR⟩
                  case measure => simp [intOf]; omega
                · obtain rfl : j = Pn := by omega
                  obtain ⟨c0, c1, cf⟩ := HR.out.nb.inA
                  obtain ⟨ta, e, hAt⟩ := HR.out.nb.hasO.has.t.at_ p hpn
                  have e : vo = some ta := e
                  subst e
                  rw [HTH.out] at hAt
                  have t0 : wr.cell? (ta.add (p * 8)) = some (.int .i64 3) := hAt.c0
                  have t1 : wr.cell? ⟨(ta.add (p * 8)).block, (ta.add (p * 8)).off + 1, none⟩ = some (.int .i64 gn) := hAt.c1
                  have t2 : wr.cell? ⟨(ta.add (p * 8)).block, (ta.add (p * 8)).off + 2, none⟩ = some (.int .i64 1) := hAt.c2
                  have t3 : wr.cell? ⟨(ta.add (p * 8)).block, (ta.add (p * 8)).off + 3, none⟩ = some (.int .i64 0) := hAt.c3
                  have t4 : wr.cell? ⟨(ta.add (p * 8)).block, (ta.add (p * 8)).off + 4, none⟩ = some (.int .i64 0) := hAt.c4
                  have t5 : wr.cell? ⟨(ta.add (p * 8)).block, (ta.add (p * 8)).off + 5, none⟩ = some (.int .i64 0) := hAt.c5
                  have t6 : wr.cell? ⟨(ta.add (p * 8)).block, (ta.add (p * 8)).off + 6, none⟩ = some (.int .i64 (-1)) := hAt.c6
                  have t7 : wr.cell? ⟨(ta.add (p * 8)).block, (ta.add (p * 8)).off + 7, none⟩ = some (.int .i64 0) := hAt.c7
                  have HTB : Hid ((wr.alloc (.cells #[.int .i64 3, .int .i64 gn, .int .i64 1, .int .i64 (p : Int), .int .i64 0, .int .i64 0, .int .i64 (-1), .int .i64 0] 40)).heap[wr.heap.size]? = some (.cells #[.int .i64 (seenT gn (p : Int)).ty, .int .i64 (seenT gn (p : Int)).gen, .int .i64 (seenT gn (p : Int)).refs, .int .i64 (seenT gn (p : Int)).st, .int .i64 (seenT gn (p : Int)).sz, .int .i64 (seenT gn (p : Int)).wa, .int .i64 (seenT gn (p : Int)).fm, .int .i64 (seenT gn (p : Int)).va] 40 (0, 0))) := heap_alloc_new wr _
                  replace HR := hid (HR.out.below (alloc_below wr (.cells #[.int .i64 3, .int .i64 gn, .int .i64 1, .int .i64 (p : Int), .int .i64 0, .int .i64 0, .int .i64 (-1), .int .i64 0] 40)))
                  clear hAt
                  go_wp2_with fail
                  clear c0 c1 cf t0 t1 t2 t3 t4 t5 t6 t7 HTH
                  generalize wr.alloc (.cells #[.int .i64 3, .int .i64 gn, .int .i64 1, .int .i64 (p : Int), .int .i64 0, .int .i64 0, .int .i64 (-1), .int .i64 0] 40) = W9 at HTB HR ⊢
                  generalize wr.heap.size = tb at HTB ⊢
                  generalize seenT gn (p : Int) = tt at HTB HSN HAp
                  go_loopw [24] (fun s24 wx => ∃ j3 : Nat, j3 ≤ Sn ∧ s24 = .int .i64 j3 ∧ Hid (Ar2 w wx W0.heap.size b0 cb y ⟨⟨some ta, vn, vc⟩, ⟨vfo, vfn, vfc⟩⟩ (takeA a q frameT) pl sn ⟨Po, j, Pc⟩ ⟨So, Sn, Sc⟩) ∧ Hid (wx.heap[tb]? = some (.cells #[.int .i64 tt.ty, .int .i64 tt.gen, .int .i64 tt.refs, .int .i64 tt.st, .int .i64 tt.sz, .int .i64 tt.wa, .int .i64 tt.fm, .int .i64 tt.va] 40 (0, 0)))) (fun s24 _ => Sn - (intOf s24).toNat)
                  case atStart => exact ⟨0, Nat.zero_le _, rfl, HR, HTB⟩
                  case round =>
                    clear HR HTB
                    obtain ⟨j3, hj3, rfl, HR, HTB⟩ := hrel
                    obtain ⟨b0', b1', b2', b3', b4', b5', b6', b7', bf'⟩ := inT_of HTB.out
                    by_cases hj4 : j3 < Sn
                    · have k3 : (0 : Int) ≤ (j3 : Int) := by omega
                      have k4 : (j3 : Int) < (Sn : Int) := by omega
                      have hsl : j3 < sn.length := by have := HR.out.s.1; rw [len_ths] at this; simp only at this; omega
                      obtain ⟨g, e, _⟩ := own_head HR.out.s (by show 0 < Sn; omega)
                      have e : So = some ⟨g, 0, none⟩ := e
                      subst e
                      have hAt := own_at HR.out.s j3 hsl
                      have hne : sn.getD j3 Th.zero ≠ tt := HSN.out _ (by simp [List.getD, hsl])
                      generalize sn.getD j3 Th.zero = uu at hAt hne
                      have he := fun W => eq8_no hne W
                      obtain ⟨o0, o1, o2, o3, o4, o5, o6, o7⟩ := hAt
                      clear hne hsl
                      go_upto_region 37 with fail
                      go_region
                      all_goals
                        have HR2 := hid (HR.out.below (Below.refl _ _).drew)
                        clear HR he
                        go_wp2_with fail
                        go_roundw
                        case rel => exact ⟨j3 + 1, by omega, by go_num, HR2, HTB⟩
                        case measure => simp [intOf]; omega
                    · obtain rfl : j3 = Sn := by omega
                      have hP : j ≤ i := hP
                      have hS : j3 ≤ i := hS
                      go_wp2_with (at_builtin; go_loud (refine wpList_append_row _ rfl (.tmp 177) (.tmp 179) 49 3 _ 1 8 rfl Try.underlying49 infoN rfl (by decide) (by decide) w.heap.size _ j (vals pl) rfl (own_below HR.out.p (alloc_below _ _)) (some ⟨wr.heap.size, 0, none⟩) 1 1 (vals [(p : Int)]) rfl rfl (fun h => by cases h) (row_int wr _ _) (vals_one _) (by omega) (HR.out.below (alloc_below _ _)).low.size ?_; intro ao1 cap1 w8 own1 grow1; apply Hid.out))
                      obtain ⟨hb8, hs8, hz8⟩ := ar2_mid HR.out grow1 HTB.out
                      have HS8 := hid hs8
                      have HZ8 := hid hz8
                      have HO1 : Hid (w8.ownsRow w.heap.size 3 1 (.slice ao1 (j + 1) cap1) (j + 1) (vals (pl ++ [(p : Int)]))) := hid (by simpa [vals] using own1)
                      have HG1 := hid grow1
                      clear own1 grow1 b0' b1' b2' b3' b4' b5' b6' b7' bf' hs8 hz8
                      obtain ⟨b0', b1', b2', b3', b4', b5', b6', b7', bf'⟩ := inT_of hb8
                      clear hb8 HTB
                      unfold Hid
                      go_wp2_with (at_builtin; go_loud (refine wpList_append_row _ rfl (.tmp 181) (.tmp 183) 22 40 _ 8 64 rfl Try.underlying22 infoT rfl (by decide) (by decide) w.heap.size _ j3 (ths sn) rfl (own_below HS8.out (alloc_below _ _)) (some ⟨w8.heap.size, 0, none⟩) 1 1 (ths [tt]) rfl rfl (fun h => by cases h) (row_th w8 tt _) (ths_one _) (by omega) (Nat.le_trans HZ8.out (alloc_below w8 _).size) ?_; intro ao2 cap2 w9 own2 grow2; apply Hid.out))
                      have own2' : w9.ownsRow w.heap.size 40 8 (.slice ao2 (j3 + 1) cap2) (j3 + 1) (ths (sn ++ [tt])) := by rwa [show ths (sn ++ [tt]) = ths sn ++ ths [tt] by simp [ths]]
                      obtain ⟨hA, ⟨c0, c1, cf⟩, ⟨d0, d1, df⟩⟩ := ar2_end (P' := ⟨ao1, j + 1, cap1⟩) (S' := ⟨ao2, j3 + 1, cap2⟩) HR.out HO1.out HG1.out own2' grow2
                      have HA := hid hA
                      clear hA own2 own2' grow2 HG1 HO1 HS8 HZ8 HR b0' b1' b2' b3' b4' b5' b6' b7' bf'
                      unfold Hid
                      go_wp2_with fail
                      go_roundw
                      case rel => exact ⟨i + 1, _, _, _, _, ⟨ao1, j + 1, cap1⟩, ⟨ao2, j3 + 1, cap2⟩, by omega, by go_num, rfl, rfl, Nat.succ_le_succ hP, Nat.succ_le_succ hS, HAp, HA⟩
                      case measure => simp [intOf]; omega
            · obtain rfl : E = 5 := HTE.out.symm.trans hE
              have HG2 := hid (HG.out.below HBc.out)
              have HPN := hid HG.out.pn
              by_cases hp0 : Pn = 0
              · subst hp0
                go_wp2_with fail
                refine (num_any 5 _).mono ?_
                rintro e w3 ⟨rfl, hw⟩; rw [hw]; clear hw w3
                go_wp2_with fail
                refine (num_any 5 _).mono ?_
                rintro e w3 ⟨rfl, hw⟩; rw [hw]; clear hw w3
                go_wp2_with fail
                refine (num_any 5 _).mono ?_
                rintro e w3 ⟨rfl, hw⟩; rw [hw]; clear hw w3
                go_wp2_with fail
                go_roundw
                case rel => exact ⟨i + 1, y, a, pl, sn, ⟨Po, 0, Pc⟩, ⟨So, Sn, Sc⟩, by omega, by go_num, rfl, rfl, Nat.zero_le _, Nat.le_succ_of_le hS, HM, HG2⟩
                case measure => simp [intOf]; omega
              · cases pl with
                | nil => exact absurd HPN.out hp0
                | cons u r =>
                  obtain ⟨e1, rB, e2, e3, hApt⟩ := apt_back HM.out q q0 q1
                  have HE1 := hid e1
                  have HE2 := hid e2
                  have HAp := hid hApt
                  have HOK := hid HM.out.ok
                  have HRB : Hid (RefB a 1000000000000) := fun g hg => by have := HM.out.refB g hg; omega
                  obtain ⟨pa, e, pc⟩ := (own_row HG2.out.p).1.cell 0 (.int .i64 u) rfl
                  have e : Po = some pa := e
                  subst e
                  rw [show pa.add 0 = pa by simp [Addr.add]] at pc
                  have hp1 : (0 : Int) < (Pn : Int) := by omega
                  obtain ⟨c0, c1, cf⟩ := HG2.out.inA
                  clear hE rB hApt HM HE HTE HTP HPN e1 e2 HV
                  go_wp2_with fail
                  refine (num_any 5 _).mono ?_
                  rintro e w3 ⟨rfl, hw⟩; rw [hw]; clear hw w3
                  go_wp2_with fail
                  refine (refer_any y a u (-1) _ (small_of HOK.out) HRB HG2.out.has.has).mono ?_
                  rintro e w5 ⟨yr, rfl, hr, b5⟩
                  rw [HE1.out]
                  replace HG2 := hid (HG2.out.below b5)
                  replace HBc := hid (q_trans HBc.out b5)
                  have HR := hid hr
                  clear b5 hr c0 c1 cf pc
                  go_wp2_with fail
                  refine (drop_any yr (refA a u (-1)) u _ (small_of (ref_ok u (-1) HOK.out)) (HR.out.below (alloc_below _ _)).has).mono ?_
                  rintro e w6 ⟨yd, rfl, hd, b6⟩
                  rw [HE2.out]
                  replace HG2 := hid (((HG2.out.below (alloc_below _ _)).below b6).below (alloc_below _ (.cells #[.slice yd.t.o yd.t.n yd.t.c, .slice yd.f.o yd.f.n yd.f.c] 25)))
                  replace HBc := hid (q_alloc (q_trans (q_alloc HBc.out _) b6) (.cells #[.slice yd.t.o yd.t.n yd.t.c, .slice yd.f.o yd.f.n yd.f.c] 25))
                  have HB18 := hid (bo_new hd)
                  clear hd b6 HR
                  go_upto_region 17 with fail
                  generalize w6.alloc (.cells #[.slice yd.t.o yd.t.n yd.t.c, .slice yd.f.o yd.f.n yd.f.c] 25) = W6 at HG2 HBc HB18 ⊢
                  generalize w6.heap.size = b18 at HB18 ⊢
                  have cl6 := (kept_below (S := fun _ => False) HBc.out).cell cl (fun e => e)
                  have CG := hid (fun W' (b : Below W6.heap.size W6 W') => give_any yd (dropA (refA a u (-1)) u) q u W' (small_of (drop_ok u (ref_ok u (-1) HOK.out))) (HB18.out.has.below b).has)
                  rw [e3] at CG
                  clear e3
                  obtain ⟨p0, p1, pf⟩ := HB18.out.box
                  have lt18 : b18 < W6.heap.size := HB18.out.box.lt
                  have HB6 : Hid ((la.add i).block < W6.heap.size) := Nat.lt_of_lt_of_le HBW.out HBc.out.size
                  go_cut [20, 21] from 54 to 185 (fun s20 s21 wx => ∃ (b : Nat) (v2 : Wh), s20 = .pointer (some ⟨b, 0, none⟩) ∧ s21 = .int .i64 0 ∧ Hid (Bo wx b v2 (giveA (dropA (refA a u (-1)) u) q u)) ∧ Hid (Below W6.heap.size W6 wx))
                  case first =>
                    have hS : SQ b18 yd (la.add i) (.int .i64 q) W6 := ⟨⟨p0, p1⟩, cl6⟩
                    go_region_held3 (SQ b18 yd (la.add i) (.int .i64 q)) (first | with_reducible assumption | with_reducible exact HS3.out | with_reducible exact sq_alloc HS3.out | with_reducible exact sq_two HS3.out HNC.out | with_reducible exact sq_drew hS | with_reducible exact sq_alloc (sq_drew hS) | exact sq_alloc hS)
                      (first
                        | (go_at_call 27; refine (CG.out _ (by first | exact (Below.refl _ W6).drew | exact q_alloc (Below.refl _ W6).drew _)).mono ?_; rintro e w3 ⟨v2, rfl, h3, b⟩; have HO3 := hid h3; have HB3 : Hid (Below W6.heap.size W6 w3) := (by first | exact q_trans (Below.refl _ W6).drew b | exact q_trans (q_alloc (Below.refl _ W6).drew _) b); have HS3 : Hid (SQ b18 yd (la.add i) (.int .i64 q) w3) := (sq_keep HB3.out hS); (try (have HZ3 : Hid (Zr w3 W6.heap.size) := ((zr_newd W6).below b); obtain ⟨z0, z1, zf⟩ := HZ3.out.inA; have HNC : Hid (b18 ≠ W6.heap.size ∧ (la.add i).block ≠ W6.heap.size) := (⟨Nat.ne_of_lt lt18, Nat.ne_of_lt HB6.out⟩))); clear h3)
                        | fail)
                    all_goals (try go_wp2_with fail)
                    all_goals go_meet
                    all_goals first
                      | exact ⟨_, v2, rfl, rfl, bo_new HO3.out, q_alloc HB3.out _⟩
                      | exact ⟨_, v2, rfl, rfl, bo_put HO3.out HZ3.out, low_put HB3.out (Nat.le_refl _)⟩
                  case rest =>
                    obtain ⟨b20, v2, rfl, rfl, HV2, HBd⟩ := hcut
                    replace HG2 := hid (HG2.out.below HBd.out)
                    clear p0 p1 pf CG HBd HBc HB18 cl6 cl lt18 HB6
                    obtain ⟨p0, p1, pf⟩ := HV2.out.box
                    obtain ⟨r0, r1, rf⟩ := HG2.out.inA
                    have HG5 := hid (HG2.out.set HV2.out.has)
                    go_wp2_with fail
                    refine (num_any 0 _).mono ?_
                    rintro e w3 ⟨rfl, hw⟩; rw [hw]; clear hw w3
                    go_wp2_with fail
                    refine (num_any 0 _).mono ?_
                    rintro e w3 ⟨rfl, hw⟩; rw [hw]; clear hw w3
                    go_wp2_with fail
                    refine (num_any 0 _).mono ?_
                    rintro e w3 ⟨rfl, hw⟩; rw [hw]; clear hw w3
                    go_upto_region 21 with fail
                    clear p0 p1 pf r0 r1 rf HG2 HV2
                    generalize (World.setCell _ _ _).setCell _ _ = V9 at HG5 ⊢
                    have hcutr := run_from1 (some pa) Pn Pc (by omega)
                    have HD9 := hid (has_drop (own_mine HG5.out.p).has (by show 1 ≤ Pn; omega))
                    have hP : Pn ≤ i := hP
                    go_wp2_with (at_builtin; go_loud (refine wpList_append_row _ rfl (.tmp 127) (.tmp 129) 49 3 _ 1 8 rfl Try.underlying49 infoN rfl (by decide) (by decide) V9.heap.size _ 0 [] rfl (own0 V9 3 1) (if Pc = 1 then some pa else (some pa).map (·.add 1)) (Pn - 1) (Pc - 1) (vals r) rfl (by rw [len_vals]; have := HD9.out.len; simp at this; simp; omega) (fun h => HD9.out.nil h) (HD9.out.row.below (alloc_below V9 _)) (vals_one _) (by omega) (alloc_below V9 _).size ?_; intro ao1 cap1 w8 own1 grow1; apply Hid.out))
                    all_goals
                      rw [Nat.zero_add, List.nil_append] at own1
                      have HG6 := hid (HG5.out.places (P' := ⟨ao1, Pn - 1, cap1⟩) (app_below grow1) own1)
                      clear own1 grow1 HG5 hcutr
                      try clear HD9
                      unfold Hid
                      go_wp2_with fail
                      go_roundw
                      case rel => exact ⟨i + 1, v2, _, r, sn, ⟨ao1, Pn - 1, cap1⟩, ⟨So, Sn, Sc⟩, by omega, by go_num, rfl, by first | rfl | simp, by show Pn - 1 ≤ i + 1; omega, Nat.le_succ_of_le hS, HAp, HG6⟩
                      case measure => simp [intOf]; omega
        · go_wp2_with fail
          go_roundw
          case rel => exact ⟨i + 1, y, a, pl, sn, ⟨Po, Pn, Pc⟩, ⟨So, Sn, Sc⟩, by omega, by go_num, rfl, rfl, Nat.le_succ_of_le hP, Nat.le_succ_of_le hS, HM, HG⟩
          case measure => simp [intOf]; omega
      · go_wp2_with fail
        go_roundw
        case rel => exact ⟨i + 1, y, a, pl, sn, ⟨Po, Pn, Pc⟩, ⟨So, Sn, Sc⟩, by omega, by go_num, rfl, rfl, Nat.le_succ_of_le hP, Nat.le_succ_of_le hS, HM, HG⟩
        case measure => simp [intOf]; omega
    · obtain rfl : i = k := by omega
      go_wp2_with fail
      refine (live_ap HG.out.low).mono ?_
      rintro e w4 ⟨rfl, b4⟩
      have HL := hid b4
      clear b4
      go_wp2_with fail
      go_ret
      exact ⟨rfl, HL.out⟩
set_option maxRecDepth 100000 in
set_option maxHeartbeats 8000000 in
theorem apt_any (n m : Int) (ao : Option Addr) (l : List Int) (k c : Nat) (w : World) (hn : k ≤ 9223372036854775807) (HC : Hid (Has w ao k c l)) :
    Calls Try.prog 7 #[.int .i64 n, .int .i64 m, .slice ao k c] w fun e w' => e = .returned (.bool true) ∧ Below w.heap.size w w' := by
  by_cases h1 : 1 ≤ n
  · by_cases h2 : n ≤ 64
    · by_cases h3 : 1 ≤ m
      · by_cases h4 : m ≤ 64
        · by_cases hk : (k : Int) ≤ 100
          · obtain ⟨n, rfl⟩ := Int.eq_ofNat_of_zero_le (by omega : 0 ≤ n)
            obtain ⟨m, rfl⟩ := Int.eq_ofNat_of_zero_le (by omega : 0 ≤ m)
            exact apart_in n m ao l k c w h1 h2 h3 h4 hk HC
          · clear HC
            go_enter Try.func7, Try.ntmps7
            go_wp2_with fail
            refine (live_ap (Below.refl _ w)).mono ?_
            rintro e w4 ⟨rfl, b4⟩
            have HL := hid b4
            clear b4
            go_wp2_with fail
            go_ret
            exact ⟨rfl, HL.out⟩
        · clear HC
          go_enter Try.func7, Try.ntmps7
          go_wp2_with fail
          refine (live_ap (Below.refl _ w)).mono ?_
          rintro e w4 ⟨rfl, b4⟩
          have HL := hid b4
          clear b4
          go_wp2_with fail
          go_ret
          exact ⟨rfl, HL.out⟩
      · clear HC
        go_enter Try.func7, Try.ntmps7
        go_wp2_with fail
        refine (live_ap (Below.refl _ w)).mono ?_
        rintro e w4 ⟨rfl, b4⟩
        have HL := hid b4
        clear b4
        go_wp2_with fail
        go_ret
        exact ⟨rfl, HL.out⟩
    · clear HC
      go_enter Try.func7, Try.ntmps7
      go_wp2_with fail
      refine (live_ap (Below.refl _ w)).mono ?_
      rintro e w4 ⟨rfl, b4⟩
      have HL := hid b4
      clear b4
      go_wp2_with fail
      go_ret
      exact ⟨rfl, HL.out⟩
  · clear HC
    go_enter Try.func7, Try.ntmps7
    go_wp2_with fail
    refine (live_ap (Below.refl _ w)).mono ?_
    rintro e w4 ⟨rfl, b4⟩
    have HL := hid b4
    clear b4
    go_wp2_with fail
    go_ret
    exact ⟨rfl, HL.out⟩
end Go.Proofs.Ytnagpedkmfmniaa.Ar
