/- Own text: awake, plainly. -/
import Derived.Test.YtfmpiidnemhijaaDoorQ13same
import Derived.Test.YtfmpiidnemhijaaDoorQ13bld
namespace Go.Proofs.YtfmpiidnemhijaaDoor
open Go.RowKit
set_option linter.unusedSimpArgs false
set_option linter.unusedVariables false

/-- The law's stream without samples. -/
def zer16 : ByteArray := textOf (List.replicate 16 0)
def sti13 : Sti := ⟨16, 4096, 0, 0, 44100, 2, 16, 0, zer16⟩
def txt13 : ByteArray := numT sti13 ++ sti13.dg
theorem zer16_size : zer16.size = 16 := by unfold zer16; rw [S2.textOf_size]; rfl
theorem fit13 : IFit sti13 := by
  refine ⟨?_, ?_, ?_, ?_, ?_, ?_, ?_, ?_, by show zer16.size ≤ _; rw [zer16_size]; decide⟩ <;> decide
theorem nums13 : numsOk sti13 := by unfold numsOk sti13 inN; decide
theorem lay13 : layOk sti13 := ⟨nums13, zer16_size, by unfold fltE sti13; decide⟩
theorem txt13_size : txt13.size = 34 := by unfold txt13; rw [ByteArray.size_append, numT_size]; show 18 + zer16.size = 34; rw [zer16_size]
theorem inf13 : infE txt13 = 0 ∧ infR txt13 = sti13 := by
  have h : infE txt13 = 0 := by
    unfold txt13
    rw [lay_infE sti13 nums13, if_pos lay13.2.1]
    exact lay13.2.2
  refine ⟨h, ?_⟩
  unfold infR
  rw [if_pos h]
  exact lay_read sti13 nums13
def two07 : ByteArray := ⟨#[0, 7]⟩
def one13 : Blk := ⟨0, txt13⟩
def lst13 : List Blk := [one13, ⟨1, two07⟩]
theorem chk_one : chkE one13 = 0 := by
  unfold chkE one13
  rw [if_neg (by rw [txt13_size]; decide), if_pos rfl]
  exact inf13.1
theorem chk_two : chkE ⟨1, two07⟩ = 0 := by
  unfold chkE formB
  rw [if_neg (by decide)]
  rfl
theorem rt_one : rtE 0 false one13 = 0 := by
  rw [rtE_of (by simp [one13]) (by decide) (by simp) (by decide)]
  exact chk_one
theorem may_one : mayS [one13] = true := by
  unfold mayS stdB
  rw [rt_one]
  rfl
theorem may_two : mayS lst13 = true := by
  unfold mayS lst13 stdB
  rw [rt_one]
  unfold stdB
  rw [rtE_of (by simp) (by decide) (by simp [cmt, one13]) (by decide), chk_two]
  rfl
theorem lay_len : ∀ l : List Blk, (layL l).length = sizL l
  | [] => rfl
  | b :: t => by
    show (pceL b t.isEmpty ++ layL t).length = _
    rw [List.length_append, pceL_length, lay_len t]
    simp [sizL]
theorem lay_two_len : (layL lst13).length = 44 := by
  have e : sizL lst13 = (4 + txt13.size) + (4 + two07.size) := by simp [sizL, lst13, one13]
  rw [lay_len, e, txt13_size]
  rfl
theorem lay_one_len : (layL [one13]).length = 38 := by
  have e : sizL [one13] = (4 + txt13.size) := by simp [sizL, one13]
  rw [lay_len, e, txt13_size]
theorem lay_256 {l : List Blk} (h : mayS l = true) : ∀ x ∈ layL l, x < 256 := layL_256 l (std_mem l 0 false (Bool.and_eq_true_iff.1 h).1)
/-- A text with more behind it. -/
theorem behind {l : List Blk} (h : mayS l = true) (r : ByteArray) : prsN (textOf (layL l) ++ r) = (l, (layL l).length, 0) := by
  refine prsN_lay (R := bytesOf r) h ?_
  rw [S2.bytesOf_append, S2.bytesOf_textOf _ (lay_256 h)]
theorem lead13 : (⟨#[128, 0, 0, 34]⟩ : ByteArray) ++ txt13 = textOf (layL [one13]) := by
  apply bytes_inj
  rw [S2.bytesOf_append, S2.bytesOf_textOf _ (lay_256 may_one)]
  have e : layL [one13] = hedL one13 true ++ bytesOf txt13 := by simp [layL, pceL, one13]
  have e2 : hedL one13 true = [128, 0, 0, 34] := by
    unfold hedL one13
    rw [txt13_size]
    decide
  rw [e, e2]
  rfl
theorem two_parts : layL lst13 = (hedL one13 false ++ bytesOf txt13) ++ (129 :: (S2.highL 2 3 ++ bytesOf two07)) := by
  have e : layL lst13 = pceL one13 false ++ (pceL ⟨1, two07⟩ true ++ []) := rfl
  rw [e, List.append_nil]
  rfl
theorem at_of {s : ByteArray} {X Y : List Nat} {b : Nat} (e : bytesOf s = X ++ b :: Y) (i : Nat) (hi : X.length = i) (h : i < s.size) : (s[i]'h).toNat = b := by
  have h1 : (bytesOf s)[i]? = some b := by
    rw [e, List.getElem?_append_right (by omega), hi, Nat.sub_self]
    rfl
  obtain ⟨h2, h3⟩ := List.getElem?_eq_some_iff.1 h1
  rw [← bytesOf_get _ i h]
  exact h3
theorem two_first (h : 0 < (textOf (layL lst13)).size) : ((textOf (layL lst13))[0]'h).toNat = 0 := by
  have e := (S2.bytesOf_textOf _ (lay_256 may_two)).trans two_parts
  exact at_of (X := []) e 0 rfl h
set_option maxRecDepth 20000 in
theorem two_mid (h : 38 < (textOf (layL lst13)).size) : ((textOf (layL lst13))[38]'h).toNat = 129 := by
  have e := (S2.bytesOf_textOf _ (lay_256 may_two)).trans two_parts
  have hl : (hedL one13 false ++ bytesOf txt13).length = 38 := by
    rw [List.length_append, hedL_length, bytesOf_length, txt13_size]
  generalize hedL one13 false ++ bytesOf txt13 = Y at *
  exact at_of e 38 hl h
theorem chk_127 : chkE ⟨127, ⟨#[]⟩⟩ = 2 := by
  unfold chkE
  rw [if_pos (by decide)]
theorem chk_3x : chkE ⟨3, ⟨#[120]⟩⟩ = 2 := by
  unfold chkE formB
  rw [if_neg (by decide)]
  rfl

end Go.Proofs.YtfmpiidnemhijaaDoor
