/- What Sort does. -/
import Derived.Test.YthonibklaijejaaOrSort
namespace Go.Proofs.Ythonibklaijejaa.Or
open Go.RowKit Go.Lib

/-- What Sort answers. -/
def allOk (l : List K) : Bool := l.all okK
def srtL (l : List K) : List K := if allOk l then srt l else []
def srtE (l : List K) : Int := if allOk l then 0 else 2
theorem all_no {l : List K} {k : Nat} (hk : k < l.length) (h : okK (l.getD k (0, 0)) = false) : allOk l = false := by
  cases ha : allOk l with
  | false => rfl
  | true =>
    rw [allOk, List.all_eq_true] at ha
    rw [getD_lt hk, ha _ (List.getElem_mem hk)] at h
    cases h
theorem all_yes {l : List K} (h : ∀ j, j < l.length → okK (l.getD j (0, 0)) = true) : allOk l = true := by
  rw [allOk, List.all_eq_true]
  intro x hx
  obtain ⟨i, hi, rfl⟩ := List.getElem_of_mem hx
  rw [← getD_lt hi]
  exact h i hi
/-- Clone, SortFunc, Compact, one behind the other: what is left to be shown of Sort's last three calls. -/
theorem sort_tail {w : World} {B n cap : Nat} {ao : Option Addr} {l : List K} (h : Mine w B ao n cap l) (hs : n ≤ 5000) (hB : B ≤ w.heap.size) :
    Calls Try.prog 30 #[.slice ao n cap, .func (.func 31) #[] #[]] w fun e w1 => e = .returned (.tuple #[]) ∧ Below B w w1 ∧
      Calls Try.prog 32 #[.slice ao n cap] w1 fun e w2 => e = .returned (.slice ao (srt l).length cap) ∧ Has w2 ao (srt l).length cap (srt l) ∧ Below B w1 w2 := by
  have hlen := h.1
  by_cases hn : n = 0
  · have hl : l = [] := List.eq_nil_of_length_eq_zero (by omega)
    subst hl hn
    refine (sortf_none ao cap w).mono ?_
    rintro e w1 ⟨rfl, rfl⟩
    refine ⟨rfl, Below.refl _ _, ?_⟩
    refine (compact_few ao 0 cap w1 (by omega)).mono ?_
    rintro e w2 ⟨rfl, rfl⟩
    exact ⟨rfl, h.has, Below.refl _ _⟩
  · obtain ⟨g, cap', cur, e, hb, hg, h1, h2, h3, h4⟩ : ∃ (g cap' : Nat) (cur : Array Value), Value.slice ao n cap = .slice (some ⟨g, 0, none⟩) n cap' ∧ B ≤ g ∧ w.heap[g]? = some (.cells cur 23) ∧ n ≤ cap' ∧ cap' ≤ maxLen ∧ cur.size = cap' * 2 ∧ cur.toList.take (n * 2) = keys l := by
      rcases h.2.2 with ⟨e, e2⟩ | ⟨g, cap', cur, e, rest⟩
      · exact absurd e2 (by omega)
      · exact ⟨g, cap', cur, e, rest⟩
    cases e
    have hglt : g < w.heap.size := (Array.getElem?_eq_some_iff.1 hg).1
    subst hlen
    refine (sortf_some g cap l w (own_lay h.2) hglt hs).mono ?_
    rintro e w1 ⟨rfl, d, hsz, hp, hso, hL, hk⟩
    have b1 : Below B w w1 := hk.below B hB (fun i e => by omega)
    refine ⟨rfl, b1, ?_⟩
    have hcs : compactUpTo d d.size = srt l := comp_srt hso hp
    have hB1 : B ≤ w1.heap.size := Nat.le_trans hB hk.size
    by_cases h2' : d.size < 2
    · have hd : compactUpTo d d.size = d.toList := by rw [compactUpTo_all d _ (fun j hj => keeps_lt_one d j (by omega)), range_map_get]
      have hl : (srt l).length = l.length := by rw [← hcs, hd]; simp [hsz]
      refine (compact_few _ _ cap w1 (by omega)).mono ?_
      rintro e w2 ⟨rfl, rfl⟩
      refine ⟨by rw [hl], ⟨rfl, (fun h => by cases h), by omega, ?_⟩, Below.refl _ _⟩
      rw [← hcs, hd]
      exact lay_row hL _ (fun j hj => ⟨by simpa using hj, by simp at hj; simp [hj]⟩)
    · rw [← hsz]
      refine (compact_some g cap d w1 hL (by omega) (by omega) (by unfold maxLen at h2; omega) h2').mono ?_
      rintro e w2 ⟨rfl, hr, hk2⟩
      rw [hcs] at hr
      refine ⟨by rw [hcs], ⟨rfl, (fun h => by cases h), ?_, hr⟩, hk2.below B hB1 (fun i e => by omega)⟩
      have := len_srt l
      omega
set_option maxRecDepth 100000 in
set_option maxHeartbeats 1000000 in
/-- SORT: THE KEYS IN THEIR ORDER, EACH ONCE. -/
theorem sort_any (ao : Option Addr) (n cap : Nat) (l : List K) (w : World) (hs : n ≤ 1000) (HH : Hid (Has w ao n cap l)) :
    Calls Try.prog 19 #[.slice ao n cap] w fun e w' => ∃ ao' cap', e = .returned (.tuple #[.slice ao' (srtL l).length cap', .int .i64 (srtE l)]) ∧ Has w' ao' (srtL l).length cap' (srtL l) ∧ Below w.heap.size w w' := by
  go_enter Try.func19, Try.ntmps19
  go_wp2
  go_loopw [9] (fun i wr => ∃ k : Nat, k ≤ n ∧ i = .int .i64 k ∧ Hid (∀ j, j < k → okK (l.getD j (0, 0)) = true) ∧ Hid (Below w.heap.size w wr)) (fun i _ => n - (intOf i).toNat)
  case atStart => exact ⟨0, Nat.zero_le _, rfl, fun j hj => absurd hj (by omega), Below.refl _ _⟩
  case round =>
    obtain ⟨k, hk, rfl, HO, HB⟩ := hrel
    by_cases hlt : k < n
    · have i1 : (0 : Int) ≤ (k : Int) := by omega
      have i2 : (k : Int) < (n : Int) := by omega
      obtain ⟨a, rfl, ca⟩ := atK_of (HH.out.row.below HB.out) k (by have := HH.out.len; omega)
      obtain ⟨x, hx⟩ : ∃ x, l.getD k (0, 0) = x := ⟨_, rfl⟩
      rw [hx] at ca
      have HX := hid hx
      clear hx
      obtain ⟨c0, c1⟩ := ca
      cases hok : okK x with
      | true =>
        have hc := fun W => check_yes hok W
        have HOK := hid hok
        clear hok
        go_wp2_with fail
        refine (hc _).mono ?_
        rintro e w1 ⟨rfl, b1⟩
        have HB1 := hid (q_trans (q_alloc HB.out _) b1)
        clear b1 hc c0 c1
        go_wp2
        go_roundw
        case rel =>
          refine ⟨k + 1, by omega, by go_num, fun j hj => ?_, HB1⟩
          by_cases e : j = k
          · subst e
            rw [HX.out]
            exact HOK.out
          · exact HO.out j (by omega)
        case measure => simp [intOf]; omega
      | false =>
        have hc := fun W => check_no hok W
        have HN := hid (all_no (l := l) (k := k) (by have := HH.out.len; omega) (by rw [HX.out]; exact hok))
        clear hok
        go_wp2_with fail
        refine (hc _).mono ?_
        rintro e w1 ⟨rfl, b1⟩
        have HB1 := hid (q_trans (q_alloc HB.out _) b1)
        clear b1 hc c0 c1
        go_wp2
        have e1 : srtL l = [] := by simp [srtL, HN.out]
        have e2 : srtE l = 2 := by simp [srtE, HN.out]
        go_ret2
        exact ⟨none, 0, by rw [e1, e2]; rfl, by rw [e1]; exact ⟨rfl, fun _ => rfl, Nat.le_refl _, row_nil _ _⟩, HB1.out⟩
    · have HY := hid (all_yes (l := l) (fun j hj => HO.out j (by have := HH.out.len; omega)))
      have E1 : Hid (srtL l = srt l) := by simp [Hid, srtL, HY.out]
      have E2 : Hid (srtE l = 0) := by simp [Hid, srtE, HY.out]
      go_wp2_with fail
      refine (clone_any ao n cap l wr (by omega) (HH.out.below HB.out)).mono ?_
      rintro e w1 ⟨ao1, cap1, rfl, hm, b1⟩
      have HT := hid (sort_tail (B := w.heap.size) ⟨hm.1, own_base hm.2 (fun i e => Nat.le_trans HB.out.size (World.ownsRow.lt hm.2 i e).1)⟩ (by omega) (q_trans HB.out b1).size)
      have HB1 := hid (q_trans HB.out b1)
      clear hm b1
      go_wp2_with fail
      refine HT.out.mono ?_
      rintro e w2 ⟨rfl, b2, hc⟩
      have HB2 := hid (HB1.out.trans b2)
      have HC := hid hc
      clear b2 hc HT HB1
      go_wp2_with fail
      refine HC.out.mono ?_
      rintro e w3 ⟨rfl, hh, b3⟩
      have HB3 := hid (HB2.out.trans b3)
      have HH3 := hid hh
      clear b3 hh HC HB2
      go_wp2
      go_ret2
      exact ⟨ao1, cap1, by rw [E1.out, E2.out]; rfl, by rw [E1.out]; exact HH3.out, HB3.out⟩
end Go.Proofs.Ythonibklaijejaa.Or
