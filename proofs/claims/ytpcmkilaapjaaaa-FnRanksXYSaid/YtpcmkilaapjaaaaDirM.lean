/- What is proved here: the directions of the four rules, taken one after the other, are the ports of the standard tables; nothing of the program. -/
import Derived.Test.YtpcmkilaapjaaaaStdM
namespace Go.Proofs.Ytpcmkilaapjaaaa
open Go.ChangeShapes Go.WideShapes Go.ChangeAt Go.RowKit
set_option linter.unusedVariables false
set_option linter.unusedSimpArgs false

def towardG (s g lo hi : Int) : Int := if g < s then lo else if g > s then hi else 4
def rowTo (W a b : Int) : Int := towardG (a % W) (b % W) 3 1
def colTo (W a b : Int) : Int := towardG (a / W) (b / W) 0 2
def xyG (W a b : Int) : Int := if rowTo W a b = 4 then colTo W a b else rowTo W a b
def yxG (W a b : Int) : Int := if colTo W a b = 4 then rowTo W a b else colTo W a b
def westG (W a b : Int) : Int := if rowTo W a b = 3 then 3 else yxG W a b
def mixG (W a b : Int) : Int := if b % 2 = 0 then xyG W a b else yxG W a b

theorem same_place {W H a b : Int} (ha : hasG W H a = true) (hb : hasG W H b = true) : a = b ↔ a % W = b % W ∧ a / W = b / W := by
  obtain ⟨_, _, _, _, ea⟩ := place_of ha
  obtain ⟨_, _, _, _, eb⟩ := place_of hb
  exact ⟨fun h => by subst h; exact ⟨rfl, rfl⟩, fun ⟨h1, h2⟩ => by rw [← ea, ← eb, h1, h2]⟩
theorem xy_first {x u y v : Int} : (if towardG x u 3 1 = 4 then towardG y v 0 2 else towardG x u 3 1) = if x = u ∧ y = v then 4 else if x ≠ u then colPort x u else rowPort y v := by
  simp only [towardG, colPort, rowPort]
  split <;> split <;> (try split) <;> (try split) <;> (try split) <;> omega
theorem yx_first {x u y v : Int} : (if towardG y v 0 2 = 4 then towardG x u 3 1 else towardG y v 0 2) = if x = u ∧ y = v then 4 else if y = v then colPort x u else rowPort y v := by
  simp only [towardG, colPort, rowPort]
  split <;> split <;> (try split) <;> (try split) <;> (try split) <;> omega
theorem xy_std {W H a b : Int} (ha : hasG W H a = true) (hb : hasG W H b = true) : xyG W a b = stdPort W 1 a b := by
  refine (xy_first (x := a % W) (u := b % W) (y := a / W) (v := b / W)).trans ?_
  have hp := same_place ha hb
  by_cases h : a = b
  · rw [if_pos (hp.1 h), stdPort, if_pos h]
  · rw [if_neg (fun e => h (hp.2 e)), stdPort, if_neg h]
    simp [firstG, mixRule]
theorem yx_std {W H a b : Int} (ha : hasG W H a = true) (hb : hasG W H b = true) : yxG W a b = stdPort W 2 a b := by
  refine (yx_first (x := a % W) (u := b % W) (y := a / W) (v := b / W)).trans ?_
  have hp := same_place ha hb
  by_cases h : a = b
  · rw [if_pos (hp.1 h), stdPort, if_pos h]
  · rw [if_neg (fun e => h (hp.2 e)), stdPort, if_neg h]
    simp [firstG, mixRule]
theorem west_first {x u y v : Int} : (if towardG x u 3 1 = 3 then 3 else if towardG y v 0 2 = 4 then towardG x u 3 1 else towardG y v 0 2) = if x = u ∧ y = v then 4 else if u < x ∨ y = v then colPort x u else rowPort y v := by
  simp only [towardG, colPort, rowPort]
  repeat' split
  all_goals omega
theorem west_std {W H a b : Int} (ha : hasG W H a = true) (hb : hasG W H b = true) : westG W a b = stdPort W 3 a b := by
  refine (west_first (x := a % W) (u := b % W) (y := a / W) (v := b / W)).trans ?_
  have hp := same_place ha hb
  by_cases h : a = b
  · rw [if_pos (hp.1 h), stdPort, if_pos h]
  · rw [if_neg (fun e => h (hp.2 e)), stdPort, if_neg h]
    simp [firstG, mixRule]
theorem mix_std {W H a b : Int} (ha : hasG W H a = true) (hb : hasG W H b = true) : mixG W a b = stdPort W 4 a b := by
  unfold mixG
  have h1 := xy_std ha hb
  have h2 := yx_std ha hb
  by_cases h : b % 2 = 0
  · rw [if_pos h, h1]
    simp [stdPort, mixRule, h]
  · rw [if_neg h, h2]
    have : b % 2 = 1 := by omega
    simp [stdPort, mixRule, this]
end Go.Proofs.Ytpcmkilaapjaaaa
