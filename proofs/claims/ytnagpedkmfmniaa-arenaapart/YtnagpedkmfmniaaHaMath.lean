/- Handles, places, generations: what is asked of them, as numbers. -/
import Derived.Test.YtnagpedkmfmniaaChecked
namespace Go.Proofs.Ytnagpedkmfmniaa.Ha

def okP (o : Int) : Bool := decide (0 ≤ o ∧ o < 64)
def okG (g : Int) : Bool := decide (0 ≤ g ∧ g ≤ 4095)
def putE (o g : Int) : Int := if 0 ≤ o ∧ o < 64 ∧ 0 ≤ g ∧ g ≤ 4095 then 0 else 2
def putV (o g : Int) : Int := if 0 ≤ o ∧ o < 64 ∧ 0 ≤ g ∧ g ≤ 4095 then g * 64 + o else 0
def parE (h : Int) : Int := if 0 ≤ h ∧ h < 262144 then 0 else 2
def parO (h : Int) : Int := if 0 ≤ h ∧ h < 262144 then h % 64 else 0
def parG (h : Int) : Int := if 0 ≤ h ∧ h < 262144 then h / 64 else 0
def nxG (g : Int) : Int := if 0 ≤ g ∧ g < 4095 then g + 1 else -1
/-- The generation of a place. -/
def at_ (l : List Int) (o : Int) : Int := l.getD o.toNat 0
def isP (l : List Int) (o : Int) : Prop := 0 ≤ o ∧ o < 64 ∧ o < l.length
def ofE (l : List Int) (o : Int) : Int := if 0 ≤ o ∧ o < 64 ∧ o < l.length then (if 0 ≤ at_ l o ∧ at_ l o ≤ 4095 then 0 else 80) else 2
def ofV (l : List Int) (o : Int) : Int := if 0 ≤ o ∧ o < 64 ∧ o < l.length then (if 0 ≤ at_ l o ∧ at_ l o ≤ 4095 then at_ l o * 64 + o else 0) else 0
def isB (l : List Int) (h : Int) : Bool := decide (0 ≤ h ∧ h < 262144 ∧ ofE l (h % 64) = 0 ∧ ofV l (h % 64) = h)
def bumpL (l : List Int) (o : Int) : List Int := if ofE l o = 0 then l.set o.toNat (nxG (at_ l o)) else l

theorem len_bump (l : List Int) (o : Int) : (bumpL l o).length = l.length := by unfold bumpL; split <;> simp
/-- The three ways of a place. -/
theorem of_ways (l : List Int) (o : Int) : (¬ (0 ≤ o ∧ o < 64 ∧ o < l.length) ∧ ofE l o = 2 ∧ ofV l o = 0) ∨ ((0 ≤ o ∧ o < 64 ∧ o < l.length) ∧ ¬ (0 ≤ at_ l o ∧ at_ l o ≤ 4095) ∧ ofE l o = 80 ∧ ofV l o = 0) ∨ ((0 ≤ o ∧ o < 64 ∧ o < l.length) ∧ (0 ≤ at_ l o ∧ at_ l o ≤ 4095) ∧ ofE l o = 0 ∧ ofV l o = at_ l o * 64 + o) := by
  unfold ofE ofV
  by_cases h : 0 ≤ o ∧ o < 64 ∧ o < l.length
  · by_cases h2 : 0 ≤ at_ l o ∧ at_ l o ≤ 4095
    · exact .inr (.inr ⟨h, h2, by rw [if_pos h, if_pos h2], by rw [if_pos h, if_pos h2]⟩)
    · exact .inr (.inl ⟨h, h2, by rw [if_pos h, if_neg h2], by rw [if_pos h, if_neg h2]⟩)
  · exact .inl ⟨h, by rw [if_neg h], by rw [if_neg h]⟩
theorem ofE_zero {l : List Int} {o : Int} : ofE l o = 0 ↔ (0 ≤ o ∧ o < 64 ∧ o < l.length) ∧ (0 ≤ at_ l o ∧ at_ l o ≤ 4095) := by
  rcases of_ways l o with ⟨h, e, _⟩ | ⟨h, h2, e, _⟩ | ⟨h, h2, e, _⟩
  · rw [e]; exact ⟨fun x => by omega, fun x => absurd x.1 h⟩
  · rw [e]; exact ⟨fun x => by omega, fun x => absurd x.2 h2⟩
  · rw [e]; exact ⟨fun _ => ⟨h, h2⟩, fun _ => rfl⟩
theorem ofV_of {l : List Int} {o : Int} (h : ofE l o = 0) : ofV l o = at_ l o * 64 + o := by
  have := ofE_zero.1 h
  unfold ofV
  rw [if_pos this.1, if_pos this.2]
/-- Of each place just one handle is one. -/
theorem isB_iff {l : List Int} {h : Int} : isB l h = true ↔ (0 ≤ h ∧ h < 262144) ∧ h % 64 < l.length ∧ at_ l (h % 64) = h / 64 := by
  unfold isB
  rw [decide_eq_true_iff]
  constructor
  · rintro ⟨h0, h1, h2, h3⟩
    rw [ofV_of h2] at h3
    have := ofE_zero.1 h2
    exact ⟨⟨h0, h1⟩, this.1.2.2, by omega⟩
  · rintro ⟨⟨h0, h1⟩, h2, h3⟩
    have e : ofE l (h % 64) = 0 := ofE_zero.2 ⟨⟨by omega, by omega, h2⟩, by omega, by omega⟩
    refine ⟨h0, h1, e, ?_⟩
    rw [ofV_of e]
    omega
theorem at_set (l : List Int) (o k x : Int) (ho : 0 ≤ o) (hk : 0 ≤ k) (hl : o < l.length) : at_ (l.set o.toNat x) k = if k = o then x else at_ l k := by
  unfold at_
  by_cases e : k = o
  · subst e
    rw [if_pos rfl]
    have : k.toNat < l.length := by omega
    simp [List.getD, this]
  · rw [if_neg e]
    have : o.toNat ≠ k.toNat := by omega
    simp [List.getD, this]
theorem at_bump (l : List Int) (o k : Int) (hk : 0 ≤ k) : at_ (bumpL l o) k = if k = o ∧ ofE l o = 0 then nxG (at_ l o) else at_ l k := by
  unfold bumpL
  by_cases h : ofE l o = 0
  · have := ofE_zero.1 h
    rw [if_pos h, at_set l o k _ this.1.1 hk this.1.2.2]
    by_cases e : k = o
    · rw [if_pos e, if_pos ⟨e, h⟩]
    · rw [if_neg e, if_neg (fun x => e x.1)]
  · rw [if_neg h, if_neg (fun x => h x.2)]
theorem nxG_ne (g : Int) (h : 0 ≤ g) : nxG g ≠ g := by unfold nxG; split <;> omega
end Go.Proofs.Ytnagpedkmfmniaa.Ha
