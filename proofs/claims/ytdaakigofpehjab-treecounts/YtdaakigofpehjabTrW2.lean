/- What the program's Check does. -/
import Derived.Test.YtdaakigofpehjabTrW1
import Derived.Test.YtdaakigofpehjabTrBox
import Derived.Laws.MakeOwn
namespace Go.Proofs.Ytdaakigofpehjab.Tr
open Go.RowKit

/-- A list of 9216 bools that may be written. -/
structure Sn (w : World) (b : Nat) (s : Nat → Bool) : Prop where
  cell : ∀ c, c < 9216 → w.cell? ⟨b, c, none⟩ = some (.bool (s c))
  free : ∀ c, c < 9216 → w.frozen? ⟨b, c, none⟩ = false
theorem Sn.lt {w : World} {b : Nat} {s : Nat → Bool} (h : Sn w b s) : b < w.heap.size := World.block_lt_of_cell? w _ (h.cell 0 (by omega))
theorem Sn.below {w w' : World} {b : Nat} {s : Nat → Bool} (h : Sn w b s) (q : Below w.heap.size w w') : Sn w' b s :=
  ⟨fun c hc => (q.cell (p := ⟨b, c, none⟩) h.lt).trans (h.cell c hc), fun c hc => (q.frozen (p := ⟨b, c, none⟩) h.lt).trans (h.free c hc)⟩
theorem sn_set {w : World} {b c : Nat} {s : Nat → Bool} (h : Sn w b s) (hc : c < 9216) : Sn (w.setCell ⟨b, c, none⟩ (.bool true)) b (fun j => decide (j = c) || s j) := by
  refine ⟨fun j hj => ?_, fun j hj => by rw [World.frozen?_setCell]; exact h.free j hj⟩
  by_cases e : j = c
  · subst e
    rw [World.cell?_setCell_same' _ _ _ (by rw [h.cell j hc]; rfl)]
    simp
  · rw [World.cell?_setCell_other _ _ _ _ (far0 (.inr (Ne.symm e))), h.cell j hj]
    simp [e]
theorem made_one (u : Value) (m : Nat) : (madeCells #[u] m).toList = List.replicate m u := by
  apply List.ext_getElem
  · simp [madeCells]
  · intro i h1 h2
    simp only [madeCells, Array.toList_map, List.getElem_map, List.getElem_replicate]
    have : ∀ j, j < 1 → (#[u])[j]! = u := by
      intro j hj
      obtain rfl : j = 0 := by omega
      rfl
    exact this _ (Nat.mod_lt _ (by simp))
theorem infoT : (Try.prog.info? 4).map (fun i => (i.zero, i.size, i.bytes)) = some (some (.bool false), 1, 1) := by kernel_rfl
theorem make_N (N : Nat) (hN : N ≤ 10000) : ∃ C : Array Value, (∀ w : World, (Instr.makeSlice 64 (.int .i64 N) (.int .i64 N)).run Try.prog w = .ok (.slice (some ⟨w.heap.size, 0, none⟩) N N) (w.alloc (.cells C 4))) ∧ ∀ (w : World) (c : Nat), c < N → (w.alloc (.cells C 4)).cell? ⟨w.heap.size, c, none⟩ = some (.bool false) ∧ (w.alloc (.cells C 4)).frozen? ⟨w.heap.size, c, none⟩ = false := by
  obtain ⟨i0, hi, hz0, hz1, hz2⟩ := info_of infoT
  refine ⟨madeCells #[Value.bool false] N, fun w => ?_, fun w c hc => ⟨?_, ?_⟩⟩
  · have h := run_make (P := Try.prog) w 64 4 i0 _ Try.underlying64 hi hz0 .i64 .i64 N N (by omega) (by omega) (by rw [hz2]; omega) (by omega)
    rw [hz1] at h
    simpa [Value.cells] using h
  · have e := made_one (Value.bool false) N
    have e2 : (madeCells #[Value.bool false] N)[c]? = some (.bool false) := by rw [← Array.getElem?_toList, e, List.getElem?_replicate, if_pos hc]
    generalize madeCells #[Value.bool false] N = C at e2
    unfold World.cell?
    rw [show (w.alloc (.cells C 4)).heap[(⟨w.heap.size, c, none⟩ : Addr).block]? = some (.cells C 4) from heap_alloc_new w _]
    exact e2
  · generalize madeCells #[Value.bool false] N = C
    unfold World.frozen?
    rw [show (w.alloc (.cells C 4)).heap[(⟨w.heap.size, c, none⟩ : Addr).block]? = some (.cells C 4) from heap_alloc_new w _]
    simp
theorem make_S : ∃ C : Array Value, (∀ w : World, (Instr.makeSlice 64 (.int .i64 9216) (.int .i64 9216)).run Try.prog w = .ok (.slice (some ⟨w.heap.size, 0, none⟩) 9216 9216) (w.alloc (.cells C 4))) ∧ ∀ w : World, Sn (w.alloc (.cells C 4)) w.heap.size (fun _ => false) := by
  obtain ⟨N, hN⟩ : ∃ N : Nat, N = 9216 := ⟨_, rfl⟩
  obtain ⟨C, h1, h2⟩ := make_N N (by omega)
  have e : (N : Int) = 9216 := by omega
  rw [e] at h1
  rw [hN] at h1
  exact ⟨C, h1, fun w => ⟨fun c hc => (h2 w c (by omega)).1, fun c hc => (h2 w c (by omega)).2⟩⟩
def sn (t : List Br) (q : Nat) (c : Nat) : Bool := decide (∃ j, j < q ∧ cellK (Ky t j) = (c : Int))
theorem sn_zero (t : List Br) : sn t 0 = fun _ => false := by
  funext c
  simp [sn]
theorem sn_succ {t : List Br} {q c : Nat} (h : cellK (Ky t q) = (c : Int)) : sn t (q + 1) = fun j => decide (j = c) || sn t q j := by
  funext j
  rw [Bool.eq_iff_iff]
  simp only [sn, decide_eq_true_eq, Bool.or_eq_true]
  constructor
  · rintro ⟨m, hm, e⟩
    rcases Nat.lt_or_ge m q with y | y
    · exact .inr ⟨m, y, e⟩
    · obtain rfl : m = q := by omega
      left
      omega
  · rintro (rfl | ⟨m, hm, e⟩)
    · exact ⟨q, by omega, h⟩
    · exact ⟨m, by omega, e⟩
def ckE (t : List Br) : Int := if isB t then 0 else 2
theorem ck_no {t : List Br} (h : ¬ Tree t) : ckE t = 2 := by simp [ckE, isB_not.2 h]
theorem ck_yes {t : List Br} (h : Tree t) : ckE t = 0 := by simp [ckE, isB_iff.2 h]
/-- How deep the next one may be. -/
def dn (t : List Br) (q : Nat) : Int := if q = 0 then 0 else D t (q - 1) + 1
theorem dn_succ (t : List Br) (q : Nat) : dn t (q + 1) = D t q + 1 := by simp [dn]
theorem gd_dn {t : List Br} {q : Nat} (h : Gd t q) : D t q ≤ dn t q := by
  have := h.dep
  unfold dn
  split at this <;> simp_all
theorem no_key {t : List Br} {q : Nat} (hq : q < t.length) (h : okK (Ky t q) = false) : ¬ Tree t := fun g => by
  have := ((tree_gd.1 g).2 q hq).key
  rw [h] at this
  cases this
theorem no_two {t : List Br} {q c : Nat} (hq : q < t.length) (hk : cellK (Ky t q) = (c : Int)) (ho : okK (Ky t q) = true) (h : sn t q c = true) : ¬ Tree t := fun g => by
  simp only [sn, decide_eq_true_eq] at h
  obtain ⟨j, hj, e⟩ := h
  have h1 := (tree_gd.1 g).2 q hq
  have h2 := (tree_gd.1 g).2 j (by omega)
  exact (fd_some.1 h1.at').2.2 j hj (cell_inj h2.key ho (e.trans hk.symm))
theorem no_deep {t : List Br} {q : Nat} (hq : q < t.length) (h : D t q < 0 ∨ dn t q < D t q) : ¬ Tree t := fun g => by
  have h1 := (tree_gd.1 g).2 q hq
  have h2 := h1.pos
  have h3 := gd_dn h1
  omega
theorem gd_next {t : List Br} {q c : Nat} (hq : q < t.length) (hk : cellK (Ky t q) = (c : Int)) (ho : okK (Ky t q) = true) (hs : sn t q c = false) (h1 : ¬ D t q < 0) (h2 : ¬ dn t q < D t q) (h : ∀ j, j < q → Gd t j) : ∀ j, j < q + 1 → Gd t j := fun j hj => by
  rcases Nat.lt_or_ge j q with y | y
  · exact h j y
  · obtain rfl : j = q := by omega
    refine ⟨fd_go hq rfl (fun m hm e => ?_), ho, by omega, ?_⟩
    · simp only [sn, decide_eq_false_iff_not] at hs
      exact hs ⟨m, hm, by rw [e]; exact hk⟩
    · unfold dn at h2
      split <;> simp_all
set_option maxHeartbeats 400000 in
theorem check_long (ao : Option Addr) (n cap : Nat) (w : World) (h : 512 < n) : Calls Try.prog 13 #[.slice ao n cap] w fun e w' => e = .returned (.int .i64 2) ∧ w' = w := by
  have i1 : (n : Int) > 512 := by omega
  clear h
  go_enter Try.func13, Try.ntmps13
  go_wp2
  go_ret
  exact ⟨rfl, rfl⟩
set_option maxRecDepth 100000 in
set_option maxHeartbeats 2000000 in
theorem check_in (ao : Option Addr) (n cap : Nat) (t : List Br) (w : World) (hs : n ≤ 512) (HH : Hid (HasB w ao n cap t)) :
    Calls Try.prog 13 #[.slice ao n cap] w fun e w' => e = .returned (.int .i64 (ckE t)) ∧ Below w.heap.size w w' := by
  have HN := hid HH.out.len
  obtain ⟨C, mk, hC⟩ := make_S
  have HC := hid (hC w)
  clear hC
  have hs1 : ¬ (n : Int) > 512 := by omega
  go_enter Try.func13, Try.ntmps13
  go_wp2_with fail
  have HB0 := hid (alloc_below w (.cells C 4))
  generalize w.alloc (.cells C 4) = W0 at HC HB0 ⊢
  clear mk
  go_loopw [4, 14] (fun d i wr => ∃ q : Nat, q ≤ n ∧ i = .int .i64 q ∧ d = .int .i64 (dn t q) ∧ Hid (0 ≤ dn t q ∧ dn t q ≤ (q : Int)) ∧ Hid (∀ j, j < q → Gd t j) ∧ Hid (Sn wr w.heap.size (sn t q)) ∧ Hid (Below w.heap.size w wr)) (fun _ i _ => n - (intOf i).toNat)
  case atStart => exact ⟨0, Nat.zero_le _, rfl, rfl, ⟨by simp [dn], by simp [dn]⟩, fun c hc => absurd hc (by omega), by rw [sn_zero]; exact HC, HB0⟩
  case round =>
    obtain ⟨q, hq, rfl, rfl, HD, HG, HS, HB⟩ := hrel
    clear HC HB0
    by_cases hlt : q < n
    · have i1 : (0 : Int) ≤ (q : Int) := by omega
      have i2 : (q : Int) < (n : Int) := by omega
      have HQ : Hid (q < t.length) := by have := HN.out; unfold Hid; omega
      obtain ⟨a, rfl, ca⟩ := (HH.out.below HB.out).at q hlt
      obtain ⟨x, hx⟩ : ∃ x, t.getD q zB = x := ⟨_, rfl⟩
      have HX := hid hx
      have HXk : Hid (Ky t q = x.1) := by unfold Hid Ky; rw [hx]
      have HXd : Hid (D t q = x.2.1) := by unfold Hid D; rw [hx]
      rw [hx] at ca
      obtain ⟨f0, f1, f2, f3⟩ := ca
      clear hx
      obtain ⟨dd, hdd⟩ : ∃ d, dn t q = d := ⟨_, rfl⟩
      have HDD := hid hdd
      rw [hdd]
      clear hdd
      have HB1 := hid (q_alloc HB.out (.cells #[.int .i64 x.1.1, .int .i64 x.1.2, .int .i64 x.2.1, .bool x.2.2] 35))
      have HS1 := hid (HS.out.below (alloc_below wr (.cells #[.int .i64 x.1.1, .int .i64 x.1.2, .int .i64 x.2.1, .bool x.2.2] 35)))
      have HA1 := hid (atB_new wr x 35)
      go_wp2_with fail
      refine (ocell_any x.1 _).mono ?_
      rintro e w2 ⟨rfl, b2⟩
      have HB2 := hid (q_trans HB1.out b2)
      have HS2 := hid (HS1.out.below b2)
      have HA2 := hid (HA1.out.below b2)
      obtain ⟨g0, g1, g2, g3⟩ := HA2.out
      clear b2 HB1 HS1 HA1 f0 f1 f2 f3
      cases hk : okK x.1 with
      | false =>
        rw [cell_no hk]
        have HE := hid (ck_no (no_key HQ.out (by rw [HXk.out]; exact hk)))
        clear hk
        go_wp2_with fail
        go_ret
        exact ⟨ret_int HE.out.symm, HB2.out⟩
      | true =>
        have hr := cell_range hk
        obtain ⟨c, hc⟩ : ∃ c : Nat, cellK x.1 = (c : Int) := ⟨(cellK x.1).toNat, by omega⟩
        have hc1 : c < 9216 := by omega
        have hc2 : (0 : Int) ≤ (c : Int) := by omega
        have hc3 : (c : Int) < 9216 := by omega
        have hc4 : ¬ (c : Int) < 0 := by omega
        have HO : Hid (okK (Ky t q) = true) := by unfold Hid; rw [HXk.out]; exact hk
        have HC : Hid (cellK (Ky t q) = (c : Int)) := by unfold Hid; rw [HXk.out]; exact hc
        rw [hc]
        have cc := HS2.out.cell c hc1
        have cf := HS2.out.free c hc1
        clear hr hc hk
        cases hsn : sn t q c with
        | true =>
          rw [hsn] at cc
          have HE := hid (ck_no (no_two HQ.out HC.out HO.out hsn))
          clear hsn
          go_wp2_with fail
          go_ret
          exact ⟨ret_int HE.out.symm, HB2.out⟩
        | false =>
          rw [hsn] at cc
          by_cases hd1 : x.2.1 < 0
          · have HE := hid (ck_no (no_deep HQ.out (.inl (by rw [HXd.out]; exact hd1))))
            clear hsn
            go_wp2_with fail
            go_ret
            exact ⟨ret_int HE.out.symm, HB2.out⟩
          · by_cases hd2 : dd < x.2.1
            · have HE := hid (ck_no (no_deep HQ.out (.inr (by rw [HXd.out, HDD.out]; exact hd2))))
              have hd3 : x.2.1 > dd := hd2
              clear hsn
              go_wp2_with fail
              go_ret
              exact ⟨ret_int HE.out.symm, HB2.out⟩
            · have HG2 := hid (gd_next HQ.out HC.out HO.out hsn (by rw [HXd.out]; exact hd1) (by rw [HXd.out, HDD.out]; exact hd2) HG.out)
              have HS3 := hid (sn_set HS2.out hc1)
              rw [← sn_succ HC.out] at HS3
              have HA3 : Hid (AtB (w2.setCell ⟨w.heap.size, c, none⟩ (.bool true)) ⟨wr.heap.size, 0, none⟩ x) := by
                have hne : w.heap.size ≠ wr.heap.size := by have := HS.out.lt; omega
                exact ⟨(World.cell?_setCell_other _ _ _ _ (far0 (.inl hne))).trans g0, (World.cell?_setCell_other _ _ _ _ (far0 (.inl hne))).trans g1, (World.cell?_setCell_other _ _ _ _ (far0 (.inl hne))).trans g2, (World.cell?_setCell_other _ _ _ _ (far0 (.inl hne))).trans g3⟩
              have HB3 := hid (q_set HB2.out (p := ⟨w.heap.size, c, none⟩) (Nat.le_refl _) (.bool true))
              obtain ⟨z0, z1, z2, z3⟩ := HA3.out
              have hdd0 : x.2.1 ≤ 1000 := by have := HD.out; have := HDD.out; omega
              have hdd1 : 0 ≤ x.2.1 := by omega
              have HDn : Hid (dn t (q + 1) = x.2.1 + 1) := by unfold Hid; rw [dn_succ, HXd.out]
              have HDb : Hid (0 ≤ dn t (q + 1) ∧ dn t (q + 1) ≤ ((q + 1 : Nat) : Int)) := by
                unfold Hid
                rw [HDn.out]
                have := HD.out
                have := HDD.out
                omega
              clear hsn
              go_wp2_with fail
              go_roundw
              case rel => exact ⟨q + 1, by omega, by go_num, by rw [HDn.out], HDb, HG2, HS3, HB3⟩
              case measure => simp [intOf]; omega
    · obtain rfl : q = n := by omega
      have HE := hid (ck_yes (tree_gd.2 ⟨by have := HN.out; omega, fun i hi => HG.out i (by have := HN.out; omega)⟩))
      go_wp2_with fail
      go_ret
      exact ⟨ret_int HE.out.symm, HB.out⟩
/-- CHECK, OF WHATEVER LIST. -/
theorem check_any (ao : Option Addr) (n cap : Nat) (t : List Br) (w : World) (h : HasB w ao n cap t) :
    Calls Try.prog 13 #[.slice ao n cap] w fun e w' => e = .returned (.int .i64 (ckE t)) ∧ Below w.heap.size w w' := by
  rcases Nat.lt_or_ge 512 n with q | q
  · rw [ck_no fun g => by have := g.len; have := h.len; omega]
    refine (check_long ao n cap w q).mono ?_
    rintro e w' ⟨rfl, rfl⟩
    exact ⟨rfl, Below.refl _ _⟩
  · exact check_in ao n cap t w q h
end Go.Proofs.Ytdaakigofpehjab.Tr
