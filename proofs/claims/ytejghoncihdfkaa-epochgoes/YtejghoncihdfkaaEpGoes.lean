/- What EpochGoes does, over the program's contracts. -/
import Derived.Test.YtejghoncihdfkaaEpOff
import Derived.Test.YtejghoncihdfkaaEpW4
import Derived.Deep.RegionWith
namespace Go.Proofs.Ytejghoncihdfkaa.Ep
open Go.RowKit

theorem infoF : (Try.prog.info? 30).map (fun i => (i.zero, i.size, i.bytes)) = some (some (.slice none 0 0), 1, 24) := by kernel_rfl
theorem tneF : (30 : TypeId) ≠ 3 := by decide
theorem one_hd (w : World) (x : Hd) (T : TypeId) : Row (w.alloc (.cells #[x.v] T)) (some ⟨w.heap.size, 0, none⟩) (hds [x]) := by
  refine ⟨fun j u hu => ⟨_, rfl, ?_⟩⟩
  match j, hu with
  | 0, hu => simp [hds] at hu; subst hu; simp [Addr.add]
/-- What is wanted of the cores ahead of k: the list, and its lists. -/
structure Wn (B0 : Nat) (wr : World) (wo : Option Addr) (wn wc k : Nat) (lm : List (List W)) (hw : List Hd) : Prop where
  base : B0 ≤ wr.heap.size
  row : wr.ownsRow B0 30 1 (.slice wo wn wc) wn (hds hw)
  len : hw.length = k
  each : ∀ i, i < k → wr.ownsRow B0 3 1 (.slice (hw.getD i Hd.zero).o (hw.getD i Hd.zero).n (hw.getD i Hd.zero).c) (hw.getD i Hd.zero).n (vals ((lm.getD i []).map (fun a : W => a.1)))
section
variable {B0 : Nat} {wr wm w3 : World} {wo : Option Addr} {wn wc k : Nat} {lm : List (List W)} {hw : List Hd}
theorem Wn.kept {S : Nat → Prop} (h : Wn B0 wr wo wn wc k lm hw) (q : Kept S wr wm) (hS : ∀ i, S i → i < B0 ∨ wr.heap.size ≤ i) : Wn B0 wm wo wn wc k lm hw :=
  ⟨Nat.le_trans h.base q.size, own_kept h.row q (fun i e s => by have := h.row.lt i e; have := hS i s; omega), h.len, fun j hj => own_kept (h.each j hj) q (fun i e s => by have := (h.each j hj).lt i e; have := hS i s; omega)⟩
theorem Wn.below (h : Wn B0 wr wo wn wc k lm hw) (b : Below wr.heap.size wr wm) : Wn B0 wm wo wn wc k lm hw := h.kept (S := fun _ => False) (kept_below b) (fun _ s => s.elim)
/-- It is as it was where all below a later bound is. -/
theorem Wn.upto {S1 : Nat} (h : Wn B0 wr wo wn wc k lm hw) (hs : wr.heap.size ≤ S1) (b : Below S1 wr wm) : Wn B0 wm wo wn wc k lm hw := h.below (b.mono hs)
theorem Wn.many (h : Wn B0 wr wo wn wc k lm hw) : wn = k := by have := h.row.1; rw [len_hds, h.len] at this; omega
theorem Wn.more {x : Hd} {ao3 : Option Addr} {cap3 : Nat} (h : Wn B0 wm wo wn wc k lm hw) (hx : wm.ownsRow B0 3 1 (.slice x.o x.n x.c) x.n (vals ((lm.getD k []).map (fun a : W => a.1))))
    (own3 : w3.ownsRow B0 30 1 (.slice ao3 (wn + 1) cap3) (wn + 1) (hds hw ++ hds [x])) (grow : wm.grownBy w3 (Value.ownBlock (.slice wo wn wc))) : Wn B0 w3 ao3 (wn + 1) cap3 (k + 1) lm (hw ++ [x]) := by
  have kg := kept_grown grow
  have hd : ∀ i, i < k → (hw ++ [x]).getD i Hd.zero = hw.getD i Hd.zero := fun i hi => by simp [List.getD, List.getElem?_append_left (show i < hw.length by rw [h.len]; exact hi)]
  have hk : (hw ++ [x]).getD k Hd.zero = x := by rw [← h.len]; simp [List.getD]
  refine ⟨Nat.le_trans h.base kg.size, ?_, by simp [h.len], fun i hi => ?_⟩
  · rw [show hds (hw ++ [x]) = hds hw ++ hds [x] by simp [hds]]
    exact own3
  · by_cases e : i < k
    · rw [hd i e]
      exact own_kept (h.each i e) kg (fun q eq s => own_apart h.row (h.each i e) tneF s.symm eq)
    · obtain rfl : i = k := by omega
      rw [hk]
      exact own_kept hx kg (fun q eq s => own_apart h.row hx tneF s.symm eq)
end
theorem ftake_snoc {l : List W} {k : Nat} {x : W} (h : k < l.length) (hx : l.getD k (0, 0) = x) : vals ((l.take (k + 1)).map (fun a : W => a.1)) = vals ((l.take k).map (fun a : W => a.1)) ++ vals [x.1] := by
  rw [wtake_snoc h, hx]
  simp
set_option maxRecDepth 100000 in
set_option maxHeartbeats 1000000 in
theorem goes_in (K : Con) (n : Int) (ao : Option Addr) (N cap : Nat) (l : List Ac) (w : World) (h1 : 1 ≤ n) (h2 : n ≤ 64) (h3 : N ≤ 120) (HC : Hid (HasC w ao N l)) :
    Calls Try.prog 6 #[.int .i64 n, .slice ao N cap] w fun r w' => r = .returned (.bool true) ∧ Below w.heap.size w w' := by
  have hn : newE n = 0 := if_pos ⟨h1, h2⟩
  have i0 : (N : Int) ≤ 120 := by omega
  have HK0 : Hid (Ok (newA n) ∧ (newA n).now ≤ 1 + (0 : Nat) ∧ ((newA n).pins.length : Int) = n) := ⟨ok_new hn, by rw [(new_now hn).1]; decide, new_len hn⟩
  have C0 := hid (fun (W : World) => k_new K (n := n) (m := 1) (q := 0) (f := newA n) ((new_now hn).1) hn rfl No W (no_lt W))
  have HN0 := hid ((new_now hn).1)
  generalize newA n = A0 at C0 HK0 HN0
  clear hn
  go_enter Try.func6, Try.ntmps6
  go_wp2_with fail
  refine (C0.out _).mono ?_
  rintro r w1 ⟨y, rfl, h0, b0⟩
  have HE := hid (Fl.mk (q_alloc b0 (.cells #[.int .i64 1, .slice y.p.o y.p.n y.p.c, .slice y.l.o y.l.n y.l.c] 25)) (be_at HN0.out 25 h0) b0.size)
  clear h0 b0
  go_wp2_with fail
  generalize w1.heap.size = B at HE ⊢
  generalize w1.alloc (.cells #[.int .i64 1, .slice y.p.o y.p.n y.p.c, .slice y.l.o y.l.n y.l.c] 25) = Wz at HE ⊢
  clear w1
  refine (num_any _ _).mono ?_
  rintro r w' ⟨rfl, hw⟩
  rw [hw]
  clear hw w'
  go_wp2_with fail
  go_loopw [7] (fun i wr => ∃ (j : Nat) (z : WE) (f : E), j ≤ N ∧ i = .int .i64 j ∧ Hid (Fl w wr B z f) ∧ Hid (Ok f ∧ f.now ≤ 1 + (j : Int) ∧ (f.pins.length : Int) = n)) (fun i _ => N - (intOf i).toNat)
  case atStart => exact ⟨0, y, A0, Nat.zero_le _, rfl, HE, HK0⟩
  case round =>
    clear HE HK0 HN0 C0
    obtain ⟨W0, rfl⟩ : ∃ W0, W0 = wr := ⟨_, rfl⟩
    obtain ⟨j, z, f, hj, rfl, HG, HO⟩ := hrel
    by_cases hlt : j < N
    · have i1 : (0 : Int) ≤ (j : Int) := by omega
      have i2 : (j : Int) < (N : Int) := by omega
      obtain ⟨la, rfl, hz⟩ := HC.out.at_ j hlt
      obtain ⟨a, ha⟩ : ∃ a, l.getD j Ac.zero = a := ⟨_, rfl⟩
      rw [ha] at hz
      have HZ := hid (atC_below hz HG.out.low)
      clear hz ha
      obtain ⟨m, hm⟩ : ∃ m, f.now = m := ⟨_, rfl⟩
      have CA := hid (fun (W' : World) (b : Below W0.heap.size W0 W') => does_any K z f a (fun i => False ∨ i = B) W' (av_lt (HG.out.be.below b).box) (sm_ok HO.out.1) (HG.out.be.has.below b))
      have HK2 : Hid (Ok (doE f a) ∧ (doE f a).now ≤ 1 + ((j + 1 : Nat) : Int) ∧ ((doE f a).pins.length : Int) = n) := ⟨do_ok a HO.out.1, by have := now_up a HO.out.2.1; push_cast; omega, by rw [do_len]; exact HO.out.2.2⟩
      generalize doE f a = d at CA HK2
      generalize (doL f a).length = L at CA
      generalize doL f a = dl at CA
      generalize doN f a = q at CA
      rw [hm] at CA
      obtain ⟨p0, p1, p2, pf⟩ := HG.out.be.box
      rw [hm] at p0
      obtain ⟨t, ht⟩ : ∃ t, d.now = t := ⟨_, rfl⟩
      rw [ht] at CA
      obtain ⟨z0, z1, z2⟩ := HZ.out
      go_upto_region 9 with fail
      go_region_with (first | (go_at_call 11; refine (CA.out _ (by exact (Below.refl _ W0).drew)).mono ?_; rintro r w3 ⟨v, o3, c3, rfl, h3, hl3, b⟩; have HB3 : Hid (Below W0.heap.size W0 w3) := (q_trans (Below.refl _ W0).drew b); have HO3 := hid h3; have HI3 := hid (HG.out.be.box.below HB3.out); obtain ⟨y0, y1, y2, yf⟩ := HI3.out; clear h3 hl3 b))
      all_goals
        have HP := hid ((HG.out.below HB3.out).put ht HO3.out)
        clear y0 y1 y2 yf p0 p1 p2 pf z0 z1 z2
        go_wp2_with fail
        go_roundw
        case rel => exact ⟨j + 1, v, d, by omega, by go_num, HP, HK2⟩
        case measure => simp [intOf]; omega
    · obtain rfl : j = N := by omega
      clear HC
      go_wp2_with fail
      go_loopw [8] (fun i wr => ∃ (c : Nat) (z : WE) (g : E), (c : Int) ≤ n ∧ i = .int .i64 c ∧ Hid (Fl w wr B z g) ∧ Hid (Un f g c)) (fun i _ => n.toNat - (intOf i).toNat)
      case atStart => exact ⟨0, z, f, by omega, rfl, HG, un_start HO.out.1⟩
      case round =>
        clear HG W0
        obtain ⟨c, z, g, hc, rfl, HG, HU⟩ := hrel
        have HLn : Hid ((g.pins.length : Int) = n) := by unfold Hid; rw [HU.out.len]; exact HO.out.2.2
        obtain ⟨m, hm⟩ : ∃ m, g.now = m := ⟨_, rfl⟩
        by_cases hlt : (c : Int) < n
        · have HU2 := hid (un_step HU.out (by have := HLn.out; omega))
          have hm2 : (unA g (c : Int)).now = m := by rw [HU2.out.now, ← HU.out.now]; exact hm
          obtain ⟨p0, p1, p2, pf⟩ := HG.out.be.box
          rw [hm] at p0
          have CU := hid (k_un K (e := g) (n := m) (c := (c : Int)) (q := unE g (c : Int)) (f := unA g (c : Int)) hm rfl rfl z (fun i => False ∨ i = B) wr (av_lt HG.out.be.box) (sm_ok HU.out.ok) HG.out.be.has)
          generalize unA g (c : Int) = d at CU HU2 hm2
          generalize unE g (c : Int) = q at CU
          go_wp2_with fail
          refine CU.out.mono ?_
          rintro r v ⟨z', rfl, hz, b⟩
          replace HG := hid (HG.out.below b)
          have HP := hid (HG.out.put hm2 hz)
          clear hz b p0 p1 p2 pf CU
          obtain ⟨p0, p1, p2, pf⟩ := HG.out.be.box
          go_wp2_with fail
          go_roundw
          case rel => exact ⟨c + 1, z', d, by omega, by go_num, HP, HU2⟩
          case measure => simp [intOf]; omega
        · have HZr := hid (zr_un HU.out (by have := HLn.out; omega))
          have HNw : Hid (m + 1 < 1099511627776) := by
            have h4 := HO.out.2.1
            rw [← HU.out.now, hm] at h4
            unfold Hid
            omega
          have HLL : Hid ((g.lim.length : Int) = n) := by unfold Hid; rw [HZr.out.ok.len]; exact HLn.out
          have HM := hid hm
          clear HU HO hm
          obtain ⟨W3, rfl⟩ : ∃ W3, W3 = wr := ⟨_, rfl⟩
          obtain ⟨⟨po, P, pc⟩, ⟨lo, L, lc⟩⟩ := z
          have HL : Hid (L = g.lim.length) := HG.out.be.has.ln
          have hL64 : L ≤ 64 := by have := HL.out; have := HLL.out; omega
          obtain ⟨p0, p1, p2, pf⟩ := HG.out.be.box
          go_wp2_with fail
          clear p0 p1 p2 pf
          go_loopw [9, 10] (fun s9 s10 wr => ∃ (c wn wc : Nat) (wo : Option Addr) (hw : List Hd), c ≤ L ∧ s9 = .slice wo wn wc ∧ s10 = .int .i64 c ∧ Hid (Below W3.heap.size W3 wr) ∧ Hid (Wn W3.heap.size wr wo wn wc c g.lim hw)) (fun _ s _ => L - (intOf s).toNat)
          case atStart => exact ⟨0, 0, 0, none, [], Nat.zero_le _, rfl, rfl, Below.refl _ _, ⟨Nat.le_refl _, World.ownsRow_nil _ _ _ _, rfl, fun i hi => absurd hi (by omega)⟩⟩
          case round =>
            obtain ⟨c, wn, wc, wo, hw, hc, rfl, rfl, HB3, HWn⟩ := hrel
            obtain ⟨W5, rfl⟩ : ∃ W5, W5 = wr := ⟨_, rfl⟩
            have HG5 := hid (HG.out.below HB3.out)
            by_cases hlt : c < L
            · have i1 : (0 : Int) ≤ (c : Int) := by omega
              have i2 : (c : Int) < (L : Int) := by omega
              obtain ⟨b, xo, m1, xc, eb, cb, hW, _⟩ := HG5.out.be.has.list c (by have := HL.out; omega)
              obtain rfl : lo = some b := eb
              have HWk := hid hW
              have hm8 : m1 ≤ 8 := by rw [hW.len]; exact (okL_iff.1 (HZr.out.ok.wait c (by rw [← HZr.out.ok.len]; have := HL.out; omega))).1
              have HCB := hid (fun (wx : World) (hx : Below W5.heap.size W5 wx) => (hx.cell (World.block_lt_of_cell? _ _ cb)).trans cb)
              obtain ⟨ll, hll⟩ : ∃ ll, g.lim.getD c [] = ll := ⟨_, rfl⟩
              rw [hll] at HWk
              have HLk := hid hll
              obtain ⟨p0, p1, p2, pf⟩ := HG5.out.be.box
              clear hW hll
              go_wp2_with fail
              clear p0 p1 p2 pf cb
              go_loopw [11, 12] (fun s11 s12 wq => ∃ (i mn mc : Nat) (mo : Option Addr), i ≤ m1 ∧ s11 = .slice mo mn mc ∧ s12 = .int .i64 i ∧ Hid (Below W5.heap.size W5 wq) ∧ Hid (wq.ownsRow W5.heap.size 3 1 (.slice mo mn mc) mn (vals ((ll.take i).map (fun a : W => a.1))))) (fun _ s _ => m1 - (intOf s).toNat)
              case atStart => exact ⟨0, 0, 0, none, Nat.zero_le _, rfl, rfl, Below.refl _ _, World.ownsRow_nil _ _ _ _⟩
              case round =>
                obtain ⟨i, mn, mc, mo, hi, rfl, rfl, HBq, HMo⟩ := hrel
                have hmn : mn = i := by have h5 := HMo.out.1; rw [len_vals, List.length_map, List.length_take] at h5; have := HWk.out.len; omega
                subst hmn
                have HGq := hid (HG5.out.below HBq.out)
                obtain ⟨p0, p1, p2, pf⟩ := HGq.out.be.box
                have cb := HCB.out wr HBq.out
                by_cases hlt2 : mn < m1
                · have j1 : (0 : Int) ≤ (mn : Int) := by omega
                  have j2 : (mn : Int) < (m1 : Int) := by omega
                  obtain ⟨a2, e3, c0, c1⟩ := atW_of (HWk.out.row.below HBq.out) mn (by have := HWk.out.len; omega)
                  subst e3
                  obtain ⟨x, hx⟩ : ∃ x, ll.getD mn (0, 0) = x := ⟨_, rfl⟩
                  rw [hx] at c0 c1
                  have HXk := hid hx
                  clear hx
                  have HOa := hid (own_below HMo.out (alloc_below wr (.cells #[.int .i64 x.1] 3)))
                  have HRw := hid (one_int wr x.1 3)
                  have HBs : Hid (W5.heap.size ≤ (wr.alloc (.cells #[.int .i64 x.1] 3)).heap.size) := (q_alloc HBq.out _).size
                  go_wp2_with (at_builtin; go_loud (refine wpList_append_row _ rfl (.tmp 82) (.tmp 92) 30 3 _ 1 8 rfl Try.underlying30 infoN rfl (by decide) (by decide) W5.heap.size _ mn (vals ((ll.take mn).map (fun a : W => a.1))) rfl HOa.out _ 1 1 (vals [x.1]) rfl rfl (fun h => by cases h) HRw.out (vals_one _) (by omega) HBs.out ?_; intro ao3 cap3 w3 own3 grow3; apply Hid.out))
                  have HBw := hid ((q_alloc HBq.out (.cells #[.int .i64 x.1] 3)).grown grow3 (q_alloc HBq.out (.cells #[.int .i64 x.1] 3)).size (fun k e => (HOa.out.lt k e).1))
                  have HM2 : Hid (w3.ownsRow W5.heap.size 3 1 (.slice ao3 (mn + 1) cap3) (mn + 1) (vals ((ll.take (mn + 1)).map (fun a : W => a.1)))) := by rw [Hid, ftake_snoc (by have := HWk.out.len; omega) HXk.out]; exact own3
                  clear own3 grow3 HOa HRw HBs p0 p1 p2 pf cb c0 c1
                  unfold Hid
                  go_wp2_with fail
                  go_roundw
                  case rel => exact ⟨mn + 1, mn + 1, cap3, ao3, by omega, rfl, by go_num, HBw, HM2⟩
                  case measure => simp [intOf]; omega
                · obtain rfl : mn = m1 := by omega
                  have HMx : Hid (wr.ownsRow W3.heap.size 3 1 (.slice mo mn mc) mn (vals ((g.lim.getD c []).map (fun a : W => a.1)))) := by
                    have h6 := HMo.out
                    rw [List.take_of_length_le (by have := HWk.out.len; omega)] at h6
                    rw [Hid, HLk.out]
                    exact own_base h6 (fun k e => Nat.le_trans HB3.out.size (h6.lt k e).1)
                  have HWq := hid (HWn.out.below HBq.out)
                  have HB4 := hid (q_trans HB3.out HBq.out)
                  have hwn : wn = c := HWq.out.many
                  subst hwn
                  have HOa := hid (own_below HWq.out.row (alloc_below wr (.cells #[.slice mo mn mc] 30)))
                  have HRw := hid (one_hd wr ⟨mo, mn, mc⟩ 30)
                  have HBs : Hid (W3.heap.size ≤ (wr.alloc (.cells #[.slice mo mn mc] 30)).heap.size) := (q_alloc HB4.out _).size
                  go_wp2_with (at_builtin; go_loud (refine wpList_append_row _ rfl (.tmp 94) (.tmp 96) 48 30 _ 1 24 rfl Try.underlying48 infoF rfl (by decide) (by decide) W3.heap.size _ wn (hds hw) rfl HOa.out _ 1 1 (hds [⟨mo, mn, mc⟩]) rfl rfl (fun h => by cases h) HRw.out (hds_one _) (by omega) HBs.out ?_; intro ao3 cap3 w3 own3 grow3; apply Hid.out))
                  have HBw := hid ((q_alloc HB4.out (.cells #[.slice mo mn mc] 30)).grown grow3 (q_alloc HB4.out (.cells #[.slice mo mn mc] 30)).size (fun k e => (HOa.out.lt k e).1))
                  have HW2 := hid ((HWq.out.below (alloc_below wr (.cells #[.slice mo mn mc] 30))).more (x := ⟨mo, mn, mc⟩) (own_below HMx.out (alloc_below wr (.cells #[.slice mo mn mc] 30))) own3 grow3)
                  clear own3 grow3 HOa HRw HBs p0 p1 p2 pf cb
                  unfold Hid
                  go_wp2_with fail
                  go_roundw
                  case rel => exact ⟨wn + 1, wn + 1, cap3, ao3, _, by omega, rfl, by go_num, HBw, HW2⟩
                  case measure => simp [intOf]; omega
            · obtain rfl : c = L := by omega
              have HAg := hid (all_go HZr.out (by rw [HM.out]; exact HNw.out))
              have hwn : wn = c := HWn.out.many
              subst hwn
              have hcn : (wn : Int) = n := by have := HL.out; have := HLL.out; omega
              have HCN := hid hcn
              have d9 : ((wn : Int) != n) = false := bne_no hcn
              have HA1 : Hid ((adA g).now = m + 1 ∧ Ok (adA g)) := by
                obtain ⟨_, a2, a3⟩ := zr_ad HZr.out (by rw [HM.out]; have := HNw.out; show m < MaxE; unfold MaxE; omega)
                exact ⟨by rw [a2, ← HM.out], a3.ok⟩
              have HBB : Hid (B < W3.heap.size) := HG.out.be.box.lt
              have C1 := hid (k_ad K (e := g) (n := m) (m := m + 1) (b := true) (f := adA g) HM.out HA1.out.1 HAg.out.1 rfl ⟨⟨po, P, pc⟩, ⟨lo, wn, lc⟩⟩ (fun i => False ∨ i = B) W5 (av_lt HG5.out.be.box) (sm_ok HZr.out.ok) HG5.out.be.has)
              obtain ⟨A1, hA1⟩ : ∃ A, adA g = A := ⟨_, rfl⟩
              rw [hA1] at C1 HA1 HAg
              obtain ⟨A2, hA2⟩ : ∃ A, adA A1 = A := ⟨_, rfl⟩
              obtain ⟨t2, ht2⟩ : ∃ t, A2.now = t := ⟨_, rfl⟩
              have C2 := hid (fun (W' : World) (z : WE) (h : Be W' No B z A1) => k_ad K (e := A1) (n := m + 1) (m := t2) (b := true) (f := A2) HA1.out.1 (by rw [hA2]; exact ht2) HAg.out.2.1 hA2 z (fun i => False ∨ i = B) W' (av_lt h.box) (sm_ok HA1.out.2) h.has)
              rw [hA2] at HAg
              have HGn := hid HAg.out.2.2.2.2
              have HT2 := hid ht2
              clear HAg hA1 hA2 ht2 hcn HL
              obtain ⟨p0, p1, p2, pf⟩ := HG5.out.be.box
              rw [HM.out] at p0
              go_wp2_with fail
              refine C1.out.mono ?_
              rintro r v ⟨z1, rfl, hz, b⟩
              have HG6 := hid (HG5.out.below b)
              have HP := hid (HG6.out.put HA1.out.1 hz)
              have HWp := hid ((HWn.out.below b).kept (kept_store v B (.int .i64 (m + 1)) (.slice z1.p.o z1.p.n z1.p.c) (.slice z1.l.o z1.l.n z1.l.c)) (fun i s => .inl (by rw [s]; exact HBB.out)))
              clear hz b p0 p1 p2 pf C1
              obtain ⟨p0, p1, p2, pf⟩ := HG6.out.be.box
              go_upto_region 25 with fail
              clear p0 p1 p2 pf HG6
              generalize (((v.setCell ⟨B, 0, none⟩ (.int .i64 (m + 1))).setCell ⟨B, 1, none⟩ (.slice z1.p.o z1.p.n z1.p.c)).setCell ⟨B, 2, none⟩ (.slice z1.l.o z1.l.n z1.l.c)) = W6 at HP HWp ⊢
              clear v
              obtain ⟨p0, p1, p2, pf⟩ := HP.out.be.box
              rw [HA1.out.1] at p0
              go_wp2_with fail
              refine (C2.out _ _ HP.out.be).mono ?_
              rintro r v ⟨z2, rfl, hz, b⟩
              have HG6 := hid (HP.out.below b)
              have HP2 := hid (HG6.out.put HT2.out hz)
              have HWp2 := hid ((HWp.out.below b).kept (kept_store v B (.int .i64 t2) (.slice z2.p.o z2.p.n z2.p.c) (.slice z2.l.o z2.l.n z2.l.c)) (fun i s => .inl (by rw [s]; exact HBB.out)))
              clear hz b p0 p1 p2 pf C2 HP HWp W6
              obtain ⟨p0, p1, p2, pf⟩ := HG6.out.be.box
              go_upto_region 26 with fail
              clear p0 p1 p2 pf HG6
              generalize (((v.setCell ⟨B, 0, none⟩ (.int .i64 t2)).setCell ⟨B, 1, none⟩ (.slice z2.p.o z2.p.n z2.p.c)).setCell ⟨B, 2, none⟩ (.slice z2.l.o z2.l.n z2.l.c)) = W7 at HP2 HWp2 ⊢
              clear v
              go_wp2_with fail
              go_loopw [15] (fun i wr => ∃ (c : Nat) (z : WE) (d : E), (c : Int) ≤ n ∧ i = .int .i64 c ∧ Hid (Fl w wr B z d) ∧ Hid (Gn g.lim d c) ∧ Hid (Wn W3.heap.size wr wo wn wc wn g.lim hw)) (fun i _ => n.toNat - (intOf i).toNat)
              case atStart => exact ⟨0, z2, A2, by omega, rfl, HP2, HGn, HWp2⟩
              case round =>
                obtain ⟨c, z, d, hc, rfl, HG7, HGd, HW7⟩ := hrel
                clear HP2 HGn HWp2
                obtain ⟨W8, rfl⟩ : ∃ W8, W8 = wr := ⟨_, rfl⟩
                by_cases hlt : (c : Int) < n
                · have HKL : Hid (c < g.lim.length) := by have := HLL.out; exact (by omega : c < g.lim.length)
                  have i1 : (0 : Int) ≤ (c : Int) := by omega
                  have i2 : (c : Int) < (wn : Int) := by have := HCN.out; omega
                  have HSt := hid (gn_step HGd.out HKL.out)
                  obtain ⟨m2, hm2⟩ : ∃ m2, d.now = m2 := ⟨_, rfl⟩
                  have hm3 : (rpA d (c : Int)).now = m2 := (now_rp d (c : Int)).trans hm2
                  have HEw := hid (HW7.out.each c (by have := HCN.out; omega))
                  have CR := hid (k_rp K (e := d) (n := m2) (c := (c : Int)) (l := (g.lim.getD c []).map (fun a : W => a.1)) (k := ((g.lim.getD c []).map (fun a : W => a.1)).length) (f := rpA d (c : Int)) hm2 HSt.out.1 rfl rfl z (fun i => False ∨ i = B) W8 (av_lt HG7.out.be.box) (sm_ok HGd.out.ok) HG7.out.be.has)
                  have HL8 : Hid (((g.lim.getD c []).map (fun a : W => a.1)).length ≤ 8) := by
                    rw [Hid, List.length_map]
                    exact (okL_iff.1 (HZr.out.ok.wait c (by rw [← HZr.out.ok.len]; exact HKL.out))).1
                  have HN2 : Hid ((rpA d (c : Int)).lim.length = wn ∧ (rpA d (c : Int)).lim.getD c [] = [] ∧ Gn g.lim (rpA d (c : Int)) (c + 1)) := by
                    refine ⟨?_, HSt.out.2.1, HSt.out.2.2⟩
                    rw [HSt.out.2.2.ok.len, HSt.out.2.2.len]
                    have := HLL.out
                    have := HCN.out
                    omega
                  obtain ⟨⟨ho, hn', hcp⟩, hh⟩ : ∃ h, hw.getD c Hd.zero = h := ⟨_, rfl⟩
                  rw [hh] at HEw
                  have HH := hid hh
                  clear HSt hh
                  generalize rpA d (c : Int) = d2 at CR hm3 HN2
                  generalize (g.lim.getD c []).map (fun a : W => a.1) = ll at CR HEw HL8
                  have hnn : hn' = ll.length := by have h5 := HEw.out.1; rw [len_vals] at h5; simp only at h5; omega
                  subst hnn
                  obtain ⟨p0, p1, p2, pf⟩ := HG7.out.be.box
                  rw [hm2] at p0
                  go_wp2_with fail
                  refine CR.out.mono ?_
                  rintro r v ⟨z', o, cp, rfl, hz, hl, _, b⟩
                  have hb2 := alloc_below v (.cells #[.int .i64 m2, .slice z'.p.o z'.p.n z'.p.c, .slice z'.l.o z'.l.n z'.l.c] 25)
                  have HG9 := hid ((HG7.out.below b).below hb2)
                  have HW9 := hid ((HW7.out.below b).below hb2)
                  have HEl := hid ((own_mine (own_below (own_below HEw.out b) hb2)).has)
                  have HOl := hid (hl.below hb2)
                  have HXb := hid (inE_new v m2 z' 25)
                  have HXh := hid (hz.below hb2)
                  have HXB : Hid (v.heap.size ≠ B) := Nat.ne_of_gt (Nat.lt_of_lt_of_le HG7.out.be.box.lt b.size)
                  clear hz hl b hb2 p0 p1 p2 pf CR
                  go_upto_region 32 with fail
                  generalize v.heap.size = X at HXb HXB ⊢
                  generalize v.alloc (.cells #[.int .i64 m2, .slice z'.p.o z'.p.n z'.p.c, .slice z'.l.o z'.l.n z'.l.c] 25) = W9 at HG9 HW9 HEl HOl HXb HXh ⊢
                  clear v
                  obtain ⟨aw, ew, cw⟩ := (own_row HW9.out.row).1.cell c _ (hds_at hw c (by rw [HW9.out.len]; have := HCN.out; omega))
                  rw [HH.out] at cw
                  replace cw : W9.cell? (aw.add c) = some (.slice ho ll.length hcp) := cw
                  obtain rfl : wo = some aw := ew
                  go_wp2_with fail
                  refine (ints_yes o ho ll.length cp hcp ll _ (Nat.le_trans HL8.out (by decide)) HOl.out HEl.out).mono ?_
                  rintro r v ⟨rfl, b⟩
                  replace HG9 := hid (HG9.out.below b)
                  replace HW9 := hid (HW9.out.below b)
                  replace HXb := hid (HXb.out.below b)
                  replace HXh := hid (HXh.out.below b)
                  clear b cw HEl HOl HEw
                  obtain ⟨bl, xo, m3, xc, ebl, cbl, hW3, _⟩ := HXh.out.list c (by rw [HN2.out.1]; have := HCN.out; omega)
                  have hm30 : m3 = 0 := by rw [hW3.len, HN2.out.2.1]; rfl
                  subst hm30
                  have hzl : z'.l.n = wn := by rw [HXh.out.ln]; exact HN2.out.1
                  have hzl2 : z'.l.o = some bl := ebl
                  obtain ⟨x0, x1, x2, xf⟩ := HXb.out
                  rw [hzl, hzl2] at x2
                  obtain ⟨p0, p1, p2, pf⟩ := HG9.out.be.box
                  have hXB : X ≠ B := HXB.out
                  have hBX : B ≠ X := fun e => HXB.out e.symm
                  have HP := hid (HG9.out.put hm3 HXh.out)
                  rw [hzl, hzl2] at HP
                  have HWp := hid (HW9.out.kept (kept_store v B (.int .i64 m2) (.slice z'.p.o z'.p.n z'.p.c) (.slice (some bl) wn z'.l.c)) (fun i s => .inl (by rw [s]; exact HBB.out)))
                  clear hW3 hzl hzl2 ebl
                  go_wp2_with fail
                  go_roundw
                  case rel => exact ⟨c + 1, z', d2, by omega, by go_num, HP, HN2.out.2.2, HWp⟩
                  case measure => simp [intOf]; omega
                · go_wp2_with fail
                  refine (live_any K _).mono ?_
                  rintro r w' ⟨rfl, bl⟩
                  have HBl := hid (q_trans HG7.out.low bl)
                  clear bl
                  go_wp2_with fail
                  go_ret
                  exact ⟨rfl, HBl.out⟩
set_option maxRecDepth 100000 in
set_option maxHeartbeats 1000000 in
/-- EPOCHGOES IS TRUE. -/
theorem goes_any (K : Con) (n : Int) (ao : Option Addr) (l : List Ac) (N cap : Nat) (w : World) (hN : N ≤ 9223372036854775807) (HC : HasC w ao N l) :
    Calls Try.prog 6 #[.int .i64 n, .slice ao N cap] w fun r w' => r = .returned (.bool true) ∧ Below w.heap.size w w' := by
  by_cases h1 : 1 ≤ n
  · by_cases h2 : n ≤ 64
    · by_cases h3 : N ≤ 120
      · exact goes_in K n ao N cap l w h1 h2 h3 HC
      · have i3 : (120 : Int) < (N : Int) := by omega
        clear h3
        go_enter Try.func6, Try.ntmps6
        go_wp2_with fail
        refine (live_any K _).mono ?_
        rintro r w' ⟨rfl, bl⟩
        have HBl := hid bl
        clear bl
        go_wp2_with fail
        go_ret
        exact ⟨rfl, HBl.out⟩
    · clear HC
      go_enter Try.func6, Try.ntmps6
      go_wp2_with fail
      refine (live_any K _).mono ?_
      rintro r w' ⟨rfl, bl⟩
      have HBl := hid bl
      clear bl
      go_wp2_with fail
      go_ret
      exact ⟨rfl, HBl.out⟩
  · clear HC
    go_enter Try.func6, Try.ntmps6
    go_wp2_with fail
    refine (live_any K _).mono ?_
    rintro r w' ⟨rfl, bl⟩
    have HBl := hid bl
    clear bl
    go_wp2_with fail
    go_ret
    exact ⟨rfl, HBl.out⟩
end Go.Proofs.Ytejghoncihdfkaa.Ep
