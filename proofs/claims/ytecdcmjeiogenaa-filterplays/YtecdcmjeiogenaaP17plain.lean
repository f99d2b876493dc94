/- Own text: filters and chains of them, middle and side: plainly. It speaks of no program. -/
import Derived.RowKit
namespace Go.Proofs.Ytecdcmjeiogenaa
open Go.RowKit
set_option linter.unusedSimpArgs false
set_option linter.unusedVariables false
/-- A number modulo 2^32, 2^16, 2^64, as two's complement. -/
def w32 (n : Int) : Int := (n + 2147483648) % 4294967296 - 2147483648
def w16 (n : Int) : Int := (n + 32768) % 65536 - 32768
def w64 (n : Int) : Int := (n + 9223372036854775808) % 18446744073709551616 - 9223372036854775808
abbrev In32 (n : Int) : Prop := -2147483648 ≤ n ∧ n ≤ 2147483647
def In16 (n : Int) : Prop := -32768 ≤ n ∧ n ≤ 32767
def In64 (n : Int) : Prop := -9223372036854775808 ≤ n ∧ n ≤ 9223372036854775807
theorem w32_in (n : Int) : In32 (w32 n) := by unfold In32 w32; omega
theorem w16_in (n : Int) : In16 (w16 n) := by unfold In16 w16; omega
theorem w64_in (n : Int) : In64 (w64 n) := by unfold In64 w64; omega
theorem w32_id {n : Int} (h : In32 n) : w32 n = n := by unfold In32 at h; unfold w32; omega
theorem w64_id {n : Int} (h : In64 n) : w64 n = n := by unfold In64 at h; unfold w64; omega
theorem w32_iff (n : Int) : w32 n = n ↔ In32 n := ⟨fun h => h ▸ w32_in n, w32_id⟩
def sgn (n : Int) : Int := if n < 0 then -1 else if 0 < n then 1 else 0
theorem sgn_in (n : Int) : -1 ≤ sgn n ∧ sgn n ≤ 1 := by unfold sgn; split <;> (try split) <;> omega
/-- A number that a filter saw, as it takes it. -/
def cut16 (n : Int) : Int := if n < -32768 then -32768 else if 32767 < n then 32767 else n
theorem cut16_in (n : Int) : In16 (cut16 n) := by unfold In16 cut16; split <;> (try split) <;> omega
def dotN : List Int → List Int → Int
  | w :: W, s :: S => w * cut16 s + dotN W S
  | _, _ => 0
/-- A step: its weights (none: the first step), and what it saw, the newest first. -/
structure Stp where
  W : List Int
  S : List Int
def tellS (s : Stp) : Int := if s.W = [] then s.S.headD 0 * 31 / 32 else dotN s.W s.S / 8192
def growN (left : Int) : List Int → List Int → List Int
  | w :: W, s :: S => w16 (w + sgn left * sgn s * 8) :: growN left W S
  | W, [] => W
  | [], _ => []
def seeS (s : Stp) (x left : Int) : Stp := ⟨growN left s.W s.S, x :: s.S.dropLast⟩
def fwdS (s : Stp) (x : Int) : Int := w32 (x - tellS s)
def invS (s : Stp) (x : Int) : Int := w32 (x + tellS s)
/-- A number through a chain: what comes out, and the chain behind it. -/
def fwdC : List Stp → Int → Int × List Stp
  | [], x => (x, [])
  | s :: t, x => ((fwdC t (fwdS s x)).1, seeS s x (fwdS s x) :: (fwdC t (fwdS s x)).2)
def invC : List Stp → Int → Int × List Stp
  | [], x => (x, [])
  | s :: t, x => (invS s (invC t x).1, seeS s (invS s (invC t x).1) (invC t x).1 :: (invC t x).2)
theorem fwdS_in (s : Stp) (x : Int) : In32 (fwdS s x) := w32_in _
theorem invS_in (s : Stp) (x : Int) : In32 (invS s x) := w32_in _
theorem inv_fwdS (s : Stp) {x : Int} (h : In32 x) : invS s (fwdS s x) = x := by
  unfold In32 at h; unfold invS fwdS w32; omega
theorem fwd_invS (s : Stp) {x : Int} (h : In32 x) : fwdS s (invS s x) = x := by
  unfold In32 at h; unfold invS fwdS w32; omega
theorem fwdC_in (c : List Stp) {x : Int} (h : In32 x) : In32 (fwdC c x).1 := by
  induction c generalizing x with
  | nil => exact h
  | cons s t ih => exact ih (fwdS_in s x)
theorem invC_in (c : List Stp) {x : Int} (h : In32 x) : In32 (invC c x).1 := by
  cases c with
  | nil => exact h
  | cons s t => exact invS_in s _
theorem inv_fwdC (c : List Stp) {x : Int} (h : In32 x) : invC c (fwdC c x).1 = (x, (fwdC c x).2) := by
  induction c generalizing x with
  | nil => rfl
  | cons s t ih =>
    have hi := ih (x := fwdS s x) (fwdS_in s x)
    show (invS s (invC t (fwdC t (fwdS s x)).1).1, seeS s (invS s (invC t (fwdC t (fwdS s x)).1).1) (invC t (fwdC t (fwdS s x)).1).1 :: (invC t (fwdC t (fwdS s x)).1).2) = (x, seeS s x (fwdS s x) :: (fwdC t (fwdS s x)).2)
    rw [hi]
    simp only [inv_fwdS s h]
theorem fwd_invC (c : List Stp) {x : Int} (h : In32 x) : fwdC c (invC c x).1 = (x, (invC c x).2) := by
  induction c generalizing x with
  | nil => rfl
  | cons s t ih =>
    have hi := ih h
    have hf : fwdS s (invS s (invC t x).1) = (invC t x).1 := fwd_invS s (invC_in t h)
    show ((fwdC t (fwdS s (invS s (invC t x).1))).1, seeS s (invS s (invC t x).1) (fwdS s (invS s (invC t x).1)) :: (fwdC t (fwdS s (invS s (invC t x).1))).2) = (x, seeS s (invS s (invC t x).1) (invC t x).1 :: (invC t x).2)
    rw [hf, hi]
/-- One number, as a chain takes it: forward or back. -/
def goC (back : Bool) (c : List Stp) (x : Int) : Int × List Stp := if back then invC c (w32 x) else fwdC c (w32 x)
theorem goC_in (back : Bool) (c : List Stp) (x : Int) : In32 (goC back c x).1 := by
  unfold goC
  split
  · exact invC_in c (w32_in x)
  · exact fwdC_in c (w32_in x)
theorem goC_back (back : Bool) (c : List Stp) {x : Int} (h : In32 x) : goC (!back) c (goC back c x).1 = (x, (goC back c x).2) := by
  have hi := goC_in back c x
  cases back with
  | true => unfold goC at hi ⊢; simp only [if_true] at hi; simp only [Bool.not_true, Bool.false_eq_true, if_false, if_true]; rw [w32_id hi, w32_id h]; exact fwd_invC c h
  | false => unfold goC at hi ⊢; simp only [Bool.false_eq_true, if_false] at hi; simp only [Bool.not_false, Bool.false_eq_true, if_false, if_true]; rw [w32_id hi, w32_id h]; exact inv_fwdC c h
/-- Numbers through a chain, one behind the other. -/
def runC (back : Bool) : List Stp → List Int → List Int
  | _, [] => []
  | c, x :: l => (goC back c x).1 :: runC back (goC back c x).2 l
def aftC (back : Bool) : List Stp → List Int → List Stp
  | c, [] => c
  | c, x :: l => aftC back (goC back c x).2 l
theorem runC_len (back : Bool) (c : List Stp) (l : List Int) : (runC back c l).length = l.length := by
  induction l generalizing c with
  | nil => rfl
  | cons x l ih => simp only [runC, List.length_cons, ih]
theorem runC_in (back : Bool) (c : List Stp) (l : List Int) : ∀ y ∈ runC back c l, In32 y := by
  induction l generalizing c with
  | nil => intro y hy; simp [runC] at hy
  | cons x l ih =>
    intro y hy
    rcases List.mem_cons.1 hy with rfl | hy
    · exact goC_in back c x
    · exact ih _ y hy
theorem runC_back (back : Bool) (c : List Stp) (l : List Int) (h : ∀ x ∈ l, In32 x) : runC (!back) c (runC back c l) = l := by
  induction l generalizing c with
  | nil => rfl
  | cons x l ih =>
    have hb := goC_back back c (h x (List.mem_cons_self ..))
    show (goC (!back) c (goC back c x).1).1 :: runC (!back) (goC (!back) c (goC back c x).1).2 (runC back (goC back c x).2 l) = x :: l
    rw [hb, ih _ fun y hy => h y (List.mem_cons_of_mem _ hy)]
theorem runC_snoc (back : Bool) (c : List Stp) (l : List Int) (x : Int) : runC back c (l ++ [x]) = runC back c l ++ [(goC back (aftC back c l) x).1] := by
  induction l generalizing c with
  | nil => rfl
  | cons y l ih => simp only [List.cons_append, runC, aftC, ih]
theorem aftC_snoc (back : Bool) (c : List Stp) (l : List Int) (x : Int) : aftC back c (l ++ [x]) = (goC back (aftC back c l) x).2 := by
  induction l generalizing c with
  | nil => rfl
  | cons y l ih => simp only [List.cons_append, aftC, ih]
theorem runC_take (back : Bool) (c : List Stp) (l : List Int) (n : Nat) : runC back c (l.take n) = (runC back c l).take n := by
  induction l generalizing c n with
  | nil => simp [runC]
  | cons y l ih =>
    cases n with
    | zero => rfl
    | succ n => simp only [List.take_succ_cons, runC, ih]
/-- New chains. -/
def newS (t : Nat) : Stp := ⟨List.replicate t 0, List.replicate (max 1 t) 0⟩
def newC (level : Int) : Option (List Stp) := if level = 0 then some [] else if level = 1 then some [newS 0, newS 16] else if level = 2 then some [newS 0, newS 32, newS 16] else none
/-- A list through a new chain of a level. -/
def allC (back : Bool) (level : Int) (l : List Int) : Option (List Int) :=
  match newC level with
  | none => none
  | some c => if (∀ x ∈ l, In32 x) then some (runC back c l) else none
/-- What holds of a step at all times: as many weights as it has taps, as many numbers, all in their bounds. -/
structure StpOk (t : Nat) (s : Stp) : Prop where
  wl : s.W.length = t
  sl : s.S.length = max 1 t
  wi : ∀ w ∈ s.W, In16 w
  si : ∀ x ∈ s.S, In32 x
theorem newS_ok (t : Nat) : StpOk t (newS t) := by
  refine ⟨List.length_replicate, List.length_replicate, fun w hw => ?_, fun x hx => ?_⟩
  · rw [(List.mem_replicate.1 hw).2]; unfold In16; omega
  · rw [(List.mem_replicate.1 hx).2]; unfold In32; omega
theorem growN_len (left : Int) (W S : List Int) : (growN left W S).length = W.length := by
  induction W generalizing S with
  | nil => cases S <;> rfl
  | cons w W ih =>
    cases S with
    | nil => rfl
    | cons s S => simp only [growN, List.length_cons, ih]
theorem growN_in (left : Int) (W S : List Int) (h : ∀ w ∈ W, In16 w) : ∀ w ∈ growN left W S, In16 w := by
  induction W generalizing S with
  | nil => cases S <;> exact h
  | cons w W ih =>
    cases S with
    | nil => exact h
    | cons s S =>
      intro y hy
      rcases List.mem_cons.1 hy with rfl | hy
      · exact w16_in _
      · exact ih S (fun w hw => h w (List.mem_cons_of_mem _ hw)) y hy
theorem seeS_ok {t : Nat} {s : Stp} (h : StpOk t s) {x : Int} (hx : In32 x) (left : Int) : StpOk t (seeS s x left) := by
  refine ⟨?_, ?_, growN_in left _ _ h.wi, fun y hy => ?_⟩
  · show (growN left s.W s.S).length = t
    rw [growN_len, h.wl]
  · show (x :: s.S.dropLast).length = max 1 t
    rw [List.length_cons, List.length_dropLast, h.sl]; omega
  · rcases List.mem_cons.1 hy with rfl | hy
    · exact hx
    · exact h.si y (List.dropLast_subset _ hy)
/-- Bounds: what a step foretells. -/
theorem dotN_in (W S : List Int) (hW : ∀ w ∈ W, In16 w) : -(1073741824 * (W.length : Int)) ≤ dotN W S ∧ dotN W S ≤ 1073741824 * (W.length : Int) := by
  induction W generalizing S with
  | nil => cases S <;> simp [dotN]
  | cons w W ih =>
    cases S with
    | nil => simp only [dotN, List.length_cons]; omega
    | cons s S =>
      have h1 := ih S fun w hw => hW w (List.mem_cons_of_mem _ hw)
      have h2 := hW w (List.mem_cons_self ..)
      have h3 := cut16_in s
      have h4 : -1073741824 ≤ w * cut16 s ∧ w * cut16 s ≤ 1073741824 := by
        unfold In16 at h2 h3
        constructor
        · rcases Int.le_total 0 w with hw | hw
          · have := Int.mul_le_mul_of_nonneg_left h3.1 hw; omega
          · have := Int.mul_le_mul_of_nonpos_left hw h3.2; omega
        · rcases Int.le_total 0 w with hw | hw
          · have := Int.mul_le_mul_of_nonneg_left h3.2 hw; omega
          · have := Int.mul_le_mul_of_nonpos_left hw h3.1; omega
      simp only [dotN, List.length_cons]
      omega
/-- Middle and side. -/
def midN (a b : Int) : Int := w64 (b + w64 (a - b) / 2)
def sidN (a b : Int) : Int := w64 (a - b)
def unbN (m s : Int) : Int := w64 (m - s / 2)
def unaN (m s : Int) : Int := w64 (unbN m s + s)
theorem un_mid {a b : Int} (ha : In64 a) (hb : In64 b) : unaN (midN a b) (sidN a b) = a ∧ unbN (midN a b) (sidN a b) = b := by
  unfold In64 at ha hb
  have h2 : unbN (midN a b) (sidN a b) = b := by unfold unbN midN sidN w64; omega
  refine ⟨?_, h2⟩
  unfold unaN
  rw [h2]
  unfold sidN w64
  omega
theorem growN_at (left : Int) (W S : List Int) (k : Nat) (h : k < W.length) (hS : W.length ≤ S.length) : (growN left W S).getD k 0 = w16 (W.getD k 0 + sgn left * sgn (S.getD k 0) * 8) := by
  induction W generalizing S k with
  | nil => simp at h
  | cons w W ih =>
    cases S with
    | nil => simp at hS
    | cons s S =>
      cases k with
      | zero => rfl
      | succ k =>
        simp only [growN, List.getD_cons_succ]
        exact ih S k (by simpa using h) (by simpa using hS)
/-- The weights when the first k have grown. -/
def grI (left : Int) (W S : List Int) : Nat → List Int
  | 0 => W
  | k + 1 => (grI left W S k).set k (w16 ((grI left W S k).getD k 0 + sgn left * sgn (S.getD k 0) * 8))
theorem grI_len (left : Int) (W S : List Int) (k : Nat) : (grI left W S k).length = W.length := by
  induction k with
  | zero => rfl
  | succ k ih => simp only [grI, List.length_set, ih]
theorem getD_set (l : List Int) (k j : Nat) (v : Int) (hk : k < l.length) : (l.set k v).getD j 0 = if j = k then v else l.getD j 0 := by
  rw [List.getD_eq_getElem?_getD, List.getD_eq_getElem?_getD, List.getElem?_set]
  by_cases e : k = j
  · subst e; simp [hk]
  · rw [if_neg e, if_neg (fun q => e q.symm)]
theorem grI_at (left : Int) (W S : List Int) (k j : Nat) (hk : k ≤ W.length) : (grI left W S k).getD j 0 = if j < k then w16 (W.getD j 0 + sgn left * sgn (S.getD j 0) * 8) else W.getD j 0 := by
  induction k generalizing j with
  | zero => rfl
  | succ k ih =>
    have hl := grI_len left W S k
    simp only [grI]
    rw [getD_set _ _ _ _ (by omega), ih k (by omega), ih j (by omega), if_neg (Nat.lt_irrefl k)]
    by_cases e : j = k
    · subst e; rw [if_pos rfl, if_pos (by omega)]
    · rw [if_neg e]
      by_cases h : j < k
      · rw [if_pos h, if_pos (by omega)]
      · rw [if_neg h, if_neg (by omega)]
theorem ext_getD (a b : List Int) (hl : a.length = b.length) (h : ∀ j, j < a.length → a.getD j 0 = b.getD j 0) : a = b := by
  apply List.ext_getElem hl
  intro j h1 h2
  have := h j h1
  rwa [List.getD_eq_getElem?_getD, List.getD_eq_getElem?_getD, List.getElem?_eq_getElem h1, List.getElem?_eq_getElem h2] at this
theorem grI_all (left : Int) (W S : List Int) (h : W.length ≤ S.length) : grI left W S W.length = growN left W S := by
  refine ext_getD _ _ (by rw [grI_len, growN_len]) fun j hj => ?_
  rw [grI_len] at hj
  rw [grI_at left W S _ j (Nat.le_refl _), if_pos hj, growN_at left W S j hj h]

end Go.Proofs.Ytecdcmjeiogenaa
