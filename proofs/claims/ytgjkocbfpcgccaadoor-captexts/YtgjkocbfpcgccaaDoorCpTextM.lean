/- Unlike capabilities have unlike texts. -/
import Derived.Test.YtgjkocbfpcgccaaDoorCpW6
import Derived.Test.YtgjkocbfpcgccaaDoorCpFacts
namespace Go.Proofs.YtgjkocbfpcgccaaDoor.Cp

/-- The number that digits spell. -/
def val (l : List UInt8) : Nat := l.foldl (fun a d => a * 10 + (d.toNat - 48)) 0
theorem val_snoc (l : List UInt8) (d : UInt8) : val (l ++ [d]) = val l * 10 + (d.toNat - 48) := by simp [val]
theorem dig_toNat (j : Nat) (h : j < 10) : (UInt8.ofNat (48 + j)).toNat = 48 + j := by
  rw [UInt8.toNat_ofNat']
  omega
theorem val_dec (u : Nat) : val (Lib.decDigits u) = u := by
  induction u using Nat.strongRecOn with
  | ind u ih =>
    by_cases h : u < 10
    · rw [Lib.decDigits_one h]
      have := dig_toNat u h
      simp only [val, List.foldl_cons, List.foldl_nil]
      omega
    · rw [Lib.decDigits, dif_neg h, val_snoc, ih (u / 10) (by omega), dig_toNat _ (by omega)]
      omega
theorem dec_digit (u : Nat) : ∀ x ∈ Lib.decDigits u, 48 ≤ x.toNat ∧ x.toNat ≤ 57 := by
  induction u using Nat.strongRecOn with
  | ind u ih =>
    intro x hx
    by_cases h : u < 10
    · rw [Lib.decDigits_one h] at hx
      have := dig_toNat u h
      rw [List.mem_singleton.1 hx]
      omega
    · rw [Lib.decDigits, dif_neg h] at hx
      rcases List.mem_append.1 hx with hx | hx
      · exact ih (u / 10) (by omega) x hx
      · have := dig_toNat (u % 10) (by omega)
        rw [List.mem_singleton.1 hx]
        omega
def dL (n : Int) : List UInt8 := (digS n).data.toList
theorem dL_nat (n : Nat) : dL (n : Int) = Lib.decDigits n := by simp [dL, digS, Lib.itoa_nonneg]
theorem dL_inj {a b : Int} (ha : 0 ≤ a) (hb : 0 ≤ b) (h : dL a = dL b) : a = b := by
  obtain ⟨m, rfl⟩ := Int.eq_ofNat_of_zero_le ha
  obtain ⟨n, rfl⟩ := Int.eq_ofNat_of_zero_le hb
  rw [dL_nat, dL_nat] at h
  have := congrArg val h
  rw [val_dec, val_dec] at this
  omega
theorem dL_not {a : Int} (ha : 0 ≤ a) (x : UInt8) (hx : x.toNat < 48) : x ∉ dL a := by
  obtain ⟨m, rfl⟩ := Int.eq_ofNat_of_zero_le ha
  rw [dL_nat]
  intro h
  have := dec_digit m x h
  omega
theorem cut {x : UInt8} : ∀ {l1 l2 r1 r2 : List UInt8}, x ∉ l1 → x ∉ l2 → l1 ++ x :: r1 = l2 ++ x :: r2 → l1 = l2 ∧ r1 = r2
  | [], [], r1, r2, _, _, h => by simpa using h
  | [], b :: l2, r1, r2, _, h2, h => by
    simp at h
    exact absurd (h.1 ▸ List.mem_cons_self) h2
  | a :: l1, [], r1, r2, h1, _, h => by
    simp at h
    exact absurd (h.1 ▸ List.mem_cons_self) h1
  | a :: l1, b :: l2, r1, r2, h1, h2, h => by
    simp at h
    obtain ⟨e1, e2⟩ := cut (fun m => h1 (List.mem_cons_of_mem _ m)) (fun m => h2 (List.mem_cons_of_mem _ m)) h.2
    exact ⟨by rw [h.1, e1], e2⟩
def nL (k : Nat) : List UInt8 := (tyName k).data.toList
theorem nL_fin : ∀ a b : Fin 6, nL a = nL b → a = b := by decide +kernel
theorem nL_not : ∀ a : Fin 6, (32 : UInt8) ∉ nL a := by decide +kernel
def rL (r : Int) : List UInt8 := (Rt.textT r).data.toList
theorem rL_len {r : Int} (h : Rt.isR r = true) : (rL r).length = 4 := by
  obtain ⟨n, hn, rfl⟩ := Rt.isR_nat h
  have : ∀ r : Fin 16, (Rt.textN r).data.toList.length = 4 := by decide +kernel
  simpa [rL, Rt.textT, h] using this ⟨n, hn⟩
theorem rL_inj {a b : Int} (ha : Rt.isR a = true) (hb : Rt.isR b = true) (h : rL a = rL b) : a = b := by
  obtain ⟨m, hm, rfl⟩ := Rt.isR_nat ha
  obtain ⟨n, hn, rfl⟩ := Rt.isR_nat hb
  simp only [rL, Rt.textT, ha, hb, if_true, Int.toNat_natCast] at h
  have e : Rt.textN m = Rt.textN n := by
    apply ByteArray.ext
    exact Array.toList_inj.1 h
  have := Rt.textN_inj ⟨m, hm⟩ ⟨n, hn⟩ e
  have := congrArg Fin.val this
  dsimp only at this
  omega
def bL (b : Int) : List UInt8 := if b = 0 then [] else 32 :: dL b
theorem text_list {c : K} (hs : someB c = true) : (textC c).data.toList = nL c.t.toNat ++ 32 :: (dL c.o ++ 46 :: (dL c.g ++ 32 :: (rL c.r ++ bL c.b))) := by
  have hn := some_not_none hs
  have hok : okB c = true := by simp [okB, hs]
  by_cases hb : c.b = 0
  · simp [textC, hok, hn, hb, mainS, tailS, nL, dL, rL, bL, ByteArray.data_append]
  · simp [textC, hok, hn, hb, mainS, tailS, nL, dL, rL, bL, ByteArray.data_append]
theorem text_zero {c : K} (hn : noneB c = true) : (textC c).data.toList = nL 0 := by simp [textC, okB, hn, nL]
theorem text_some_inj {c d : K} (hc : someB c = true) (hd : someB d = true) (h : (textC c).data.toList = (textC d).data.toList) : c = d := by
  rw [text_list hc, text_list hd] at h
  simp only [someB, Bool.and_eq_true, decide_eq_true_eq, up_iff] at hc hd
  obtain ⟨tc, ⟨⟨rc, bc⟩, oc⟩, gc⟩ := hc
  obtain ⟨td, ⟨⟨rd, bd⟩, od⟩, gd⟩ := hd
  obtain ⟨h0, h⟩ := cut (nL_not ⟨c.t.toNat, by omega⟩) (nL_not ⟨d.t.toNat, by omega⟩) h
  obtain ⟨h1, h⟩ := cut (dL_not oc.1 46 (by decide)) (dL_not od.1 46 (by decide)) h
  obtain ⟨h2, h⟩ := cut (dL_not gc.1 32 (by decide)) (dL_not gd.1 32 (by decide)) h
  obtain ⟨h3, h⟩ := List.append_inj h (by rw [rL_len rc, rL_len rd])
  have e0 := nL_fin ⟨c.t.toNat, by omega⟩ ⟨d.t.toNat, by omega⟩ h0
  have e0 := congrArg Fin.val e0
  dsimp only at e0
  refine K.ext' (by omega) (rL_inj rc rd h3) ?_ (dL_inj oc.1 od.1 h1) (dL_inj gc.1 gd.1 h2)
  unfold bL at h
  by_cases hb : c.b = 0
  · by_cases hb2 : d.b = 0
    · omega
    · simp [hb, hb2] at h
  · by_cases hb2 : d.b = 0
    · simp [hb, hb2] at h
    · simp [hb, hb2] at h
      exact dL_inj bc.1 bd.1 h
theorem text_inj {c d : K} (hc : okB c = true) (hd : okB d = true) (h : textC c = textC d) : c = d := by
  have h : (textC c).data.toList = (textC d).data.toList := by rw [h]
  simp only [okB, Bool.or_eq_true] at hc hd
  have apart : ∀ {c d : K}, noneB c = true → someB d = true → (textC c).data.toList ≠ (textC d).data.toList := fun {c d} h1 h2 e => by
    rw [text_zero h1, text_list h2] at e
    have : (32 : UInt8) ∈ nL 0 := by rw [e]; simp
    exact nL_not ⟨0, by omega⟩ this
  rcases hc with hc | hc <;> rcases hd with hd | hd
  · rw [noneB_zero.1 hc, noneB_zero.1 hd]
  · exact absurd h (apart hc hd)
  · exact absurd h.symm (apart hd hc)
  · exact text_some_inj hc hd h
theorem text_ne {c : K} (hc : okB c = true) : textC c ≠ ⟨#[]⟩ := fun e => by
  have e : (textC c).data.toList = [] := by rw [e]
  simp only [okB, Bool.or_eq_true] at hc
  rcases hc with hc | hc
  · rw [text_zero hc] at e
    exact absurd e (by decide)
  · rw [text_list hc] at e
    simp at e
end Go.Proofs.YtgjkocbfpcgccaaDoor.Cp
