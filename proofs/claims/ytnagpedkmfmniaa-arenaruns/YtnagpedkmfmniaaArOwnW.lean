/- What own does: the walk. -/
import Derived.Test.YtnagpedkmfmniaaArOwnF
namespace Go.Proofs.Ytnagpedkmfmniaa.Ar
open Go.RowKit Go.Proofs.Ytnagpedkmfmniaa.Ha

/-- append of one list's head AT A STEP OF A REGION THAT DRAWS ITS ORDER. -/
theorem step_append_head (w : World) {ops : Array Oper} {o : Oper} {a : Act} {C : Act → World → Prop} {Q : Exit → Act → World → Prop} {E : Prop} (hgd : o.guard = none) (s x : Operand)
    (ho : o.op = .call { callee := .builtin .append, args := #[s, x], argTypes := #[23, 23] })
    (base : Nat) (v : Value) (n : Nat) (xs : List Value) (hs : a.eval s = v) (hown : w.ownsRow base 49 1 v n xs)
    (ad : Addr) (u : Hd) (hx : a.eval x = .slice (some ad) 1 1) (hu : w.cell? ad = some (.slice u.o u.n u.c)) (h63 : n ≤ 5000) (hbase : base ≤ w.heap.size)
    (h : ∀ ao' cap' w', w'.ownsRow base 49 1 (.slice ao' (n + 1) cap') (n + 1) (xs ++ [.slice u.o u.n u.c]) → w.grownBy w' v.ownBlock → C (a.put o.dst (.slice ao' (n + 1) cap')) w') :
    if Region.wanted o (yielded ops a.tmps) = true then Oper.wp Try.prog o a w C Q else E := by
  have hw : Region.wanted o (yielded ops a.tmps) = true := by simp [Region.wanted, hgd]
  rw [if_pos hw]
  obtain ⟨i0, hi, hz0, hz1, hz2⟩ := info_of infoF
  have sl : ∀ {w' : World} {v' : Value} {k : Nat} {cs : List Value}, w'.ownsRow base 49 1 v' k cs → ∃ ao' cap', v' = .slice ao' k cap' := by
    intro w' v' k cs h
    rcases h.2 with ⟨rfl, rfl⟩ | ⟨g, cap, cur, rfl, _⟩
    · exact ⟨_, _, rfl⟩
    · exact ⟨_, _, rfl⟩
  refine wp_append_own w s x 23 ho base 49 i0 _ 1 24 Try.underlying23 hi hz0 hz1 hz2 rfl (by decide) v n xs hs hown ad 1 1 [.slice u.o u.n u.c] hx rfl ?_ (fun z hz => by simp at hz; subst hz; rfl) (by unfold maxLen; omega) (by omega) hbase ?_
  · intro j z hz
    cases j with
    | zero => simp at hz; subst hz; simpa [Addr.add] using hu
    | succ j => simp at hz
  · intro v' w' h1 h2 _
    obtain ⟨ao', cap', rfl⟩ := sl h1
    exact h ao' cap' w' h1 h2
set_option maxRecDepth 100000 in
set_option maxHeartbeats 8000000 in
/-- own. -/
theorem own_any (x : Wh) (a : Ar) (w : World) (HS : Hid (Sm a)) (HH : Hid (HasA w x a)) :
    Calls Try.prog 16 #[(.agg #[.slice x.t.o x.t.n x.t.c, .slice x.f.o x.f.n x.f.c])] w fun e w' => ∃ y : Wh, e = .returned (.agg #[.slice y.t.o y.t.n y.t.c, .slice y.f.o y.f.n y.f.c]) ∧ HasO w' y a ∧ Below w.heap.size w w' := by
  obtain ⟨⟨xo, tn, tc⟩, ⟨fo, fn, fc⟩⟩ := x
  have HTN : Hid (tn = a.ts.length) := HH.out.tn
  have HFN : Hid (fn = a.fr.length) := HH.out.fn
  have hfn : fn ≤ 1000 := by rw [HFN.out]; exact HS.out.f
  have htn : tn ≤ 1000 := by rw [HTN.out]; exact HS.out.t
  have HD := hid (dw_new w ⟨⟨xo, tn, tc⟩, ⟨fo, fn, fc⟩⟩)
  have HPB : Hid (((w.alloc (.cells #[.slice xo tn tc, .slice fo fn fc] 25)).alloc (.cells #[.slice none 0 0, .slice none 0 0] 25)).heap[w.heap.size]? = some (.cells #[.slice xo tn tc, .slice fo fn fc] 25 (0, 0))) := by
    have h0 : (w.alloc (.cells #[.slice xo tn tc, .slice fo fn fc] 25)).heap[w.heap.size]? = some (.cells #[.slice xo tn tc, .slice fo fn fc] 25 (0, 0)) := heap_alloc_new w _
    exact ((alloc_below _ _).block _ (Array.getElem?_eq_some_iff.1 h0).1).trans h0
  dsimp only at HD
  go_enter Try.func16, Try.ntmps16
  go_upto_region 1 with fail
  generalize (w.alloc (.cells #[.slice xo tn tc, .slice fo fn fc] 25)).alloc (.cells #[.slice none 0 0, .slice none 0 0] 25) = V at HD HPB ⊢
  have HT := hid (HH.out.below HD.out.low).t
  obtain ⟨c0, c1, cf⟩ := HD.out.box
  have n1 : w.heap.size < V.heap.size := HD.out.box.lt
  go_wp2_with (at_builtin; go_loud (refine wpList_append_row _ rfl (.tmp 5) (.tmp 7) 22 40 _ 8 64 rfl Try.underlying22 infoT rfl (by decide) (by decide) V.heap.size _ 0 [] rfl (own0 V 40 8) xo tn tc (ths a.ts) rfl (by rw [len_ths, ← HTN.out]) (fun h => HT.out.nil h) (HT.out.row.below (alloc_below V _)) (ths_one a.ts) (by omega) (alloc_below V _).size ?_; intro ao1 cap1 w1 hown1 hgrow1; apply Hid.out))
  have b1 := app_below hgrow1
  rw [Nat.zero_add, List.nil_append] at hown1
  have HOW : Hid (Ow w (w1.alloc (.cells #[.slice ao1 tn cap1, .slice none 0 0] 25)) w1.heap.size ⟨⟨xo, tn, tc⟩, ⟨fo, fn, fc⟩⟩ ⟨⟨ao1, tn, cap1⟩, ⟨none, 0, 0⟩⟩ a 0 []) := by
    have lo := HD.out.low
    have bb := alloc_below w1 (.cells #[.slice ao1 tn cap1, .slice none 0 0] 25)
    have hb2 : ∀ {i : Nat} {o : Obj}, V.heap[i]? = some o → (w1.alloc (.cells #[.slice ao1 tn cap1, .slice none 0 0] 25)).heap[i]? = some o := fun ho => by rw [(q_trans b1 bb).block _ (Array.getElem?_eq_some_iff.1 ho).1]; exact ho
    exact ⟨q_trans (q_trans lo b1) bb, hb2 HPB.out, hb2 HD.out.zr, heap_alloc_new w1 _, by have h1 := HD.out.zr.inA.lt; have h2 := b1.size; omega, own_base (own_below hown1 bb) (fun i e => by obtain ⟨a3, e3, h3⟩ := block_of e; have := ((own_row hown1).2.2.2 a3 e3).1; have := lo.size; omega), World.ownsRow_nil _ _ _ _, rfl, rfl, fun i hi => absurd hi (by omega)⟩
  clear c0 c1 cf n1 hown1 hgrow1 b1 HD HPB HT
  unfold Hid
  go_wp2_with fail
  generalize w1.alloc (.cells #[.slice ao1 tn cap1, .slice none 0 0] 25) = W at HOW ⊢
  generalize w1.heap.size = bx at HOW ⊢
  go_loopw [4] (fun i wr => ∃ (k : Nat) (y : Wh) (hs : List Hd), k ≤ fn ∧ i = .int .i64 k ∧ Hid (Ow w wr bx ⟨⟨xo, tn, tc⟩, ⟨fo, fn, fc⟩⟩ y a k hs)) (fun i _ => fn - (intOf i).toNat)
  case atStart => exact ⟨0, _, [], Nat.zero_le _, rfl, HOW⟩
  case round =>
    clear HOW
    obtain ⟨k, ⟨⟨yo, yn, yc⟩, ⟨yfo, yfn, yfc⟩⟩, hs, hk, rfl, HG⟩ := hrel
    have hyf : yfn = k := HG.out.fn
    subst hyf
    obtain ⟨p0, p1, pf⟩ := inA_heap HG.out.pb
    obtain ⟨d0, d1, df⟩ := inA_heap HG.out.blk
    have np : w.heap.size < wr.heap.size := (inA_heap HG.out.pb).lt
    have nb : bx < wr.heap.size := (inA_heap HG.out.blk).lt
    by_cases hlt : yfn < fn
    · have i1 : (0 : Int) ≤ (yfn : Int) := by omega
      have i2 : (yfn : Int) < (fn : Int) := by omega
      have HK : Hid (yfn < a.fr.length) := by have := HFN.out; exact (by omega : yfn < a.fr.length)
      obtain ⟨fa, o1, m1, x1, e, ca0, hL⟩ := HH.out.list yfn HK.out
      have e : fo = some fa := e
      subst e
      have HL := hid (hL.below HG.out.low)
      have ca := (kept_below (S := fun _ => False) HG.out.low).cell ca0 (fun e => e)
      have cab : (fa.add yfn).block < wr.heap.size := World.block_lt_of_cell? wr _ ca
      have hm : m1 ≤ 1000 := by have := hL.len; have := HS.out.e yfn; omega
      clear hL ca0
      go_upto_region 5 with fail
      go_region_law
        (first
          | (refine step_append_ints _ (by rfl) (.tmp 19) (.tmp 24) (by rfl) wr.heap.size (.slice (some ⟨wr.heap.size, 0, none⟩) 0 0) 0 [] (by rfl) ((own0 wr 3 1).drew) o1 m1 x1 (a.fr.getD yfn []) (by rfl) HL.out.len HL.out.nil (HL.out.row.below ((alloc_below wr _).drew)) m1 (by omega) (a.fr.getD yfn []) (by rfl) (by omega) (by simp) ?_; intro ao3 cap3 w3 own3 grow3; have HB3 : Hid (Below wr.heap.size wr w3) := (grow_below ((alloc_below wr _).drew) grow3 (Nat.le_refl _)); have HO3 := hid own3; have e1 := (inA_heap (HG.out.below HB3.out).blk).c1; have nb3 : bx < w3.heap.size := (inA_heap (HG.out.below HB3.out).blk).lt; clear own3 grow3)
          | (refine step_append_head _ (by rfl) (.tmp 18) (.tmp 26) (by rfl) w.heap.size (.slice yfo yfn yfc) yfn (hds hs) (by rfl) ((HG.out.below HB3.out).below (alloc_below w3 _)).f ⟨w3.heap.size, 0, none⟩ ⟨ao3, m1, cap3⟩ (by rfl) (by simp) (by omega) ((HG.out.below HB3.out).below (alloc_below w3 _)).low.size ?_; intro ao4 cap4 w4 own4 grow4; obtain ⟨e2, e3⟩ := ow_cells HG.out HB3.out grow4; have HST := hid (ow_step HG.out HB3.out HO3.out own4 grow4); clear own4 grow4)
          | fail)
      all_goals
        go_wp2_with fail
        go_roundw
        case rel => exact ⟨yfn + 1, _, _, by omega, by go_num, HST⟩
        case measure => simp [intOf]; omega
    · obtain rfl : yfn = fn := by omega
      clear hlt hk
      obtain ⟨r0, r1, rf⟩ := HG.out.zr.inA
      have gt := HG.out.gt
      have HF : Hid (HasO wr ⟨⟨yo, yn, yc⟩, ⟨yfo, yfn, yfc⟩⟩ a) := by
        have h := HG.out
        have e := HFN.out
        refine hid ?_
        clear HFN r0 r1 rf p0 p1 pf d0 d1 df HG
        subst e
        exact h.hasO
      go_wp2_with fail
      refine bodyPost_ret (v := (.agg #[.slice (⟨⟨yo, yn, yc⟩, ⟨yfo, yfn, yfc⟩⟩ : Wh).t.o (⟨⟨yo, yn, yc⟩, ⟨yfo, yfn, yfc⟩⟩ : Wh).t.n (⟨⟨yo, yn, yc⟩, ⟨yfo, yfn, yfc⟩⟩ : Wh).t.c, .slice (⟨⟨yo, yn, yc⟩, ⟨yfo, yfn, yfc⟩⟩ : Wh).f.o (⟨⟨yo, yn, yc⟩, ⟨yfo, yfn, yfc⟩⟩ : Wh).f.n (⟨⟨yo, yn, yc⟩, ⟨yfo, yfn, yfc⟩⟩ : Wh).f.c])) (by simp [results, Try.results16, go_sem, r0, r1]) rfl ⟨_, rfl, HF.out.box HG.out.zr _ _, low_put HG.out.low (by omega)⟩
end Go.Proofs.Ytnagpedkmfmniaa.Ar
