/- Own text. -/
import Derived.Test.YtfpfabmbipmipaaGreatDoorB30
set_option linter.unusedSimpArgs false
set_option linter.unusedVariables false
set_option maxRecDepth 20000
set_option maxHeartbeats 12800000
namespace Go.Proofs.YtfpfabmbipmipaaGreatDoor
open Go.RowKit
def extN (sc : Nat) : Nat := if sc = 6 then 1 else if sc = 7 then 2 else 0
def rwN (rc : Nat) : Nat := if rc = 12 then 1 else if rc = 13 then 2 else if rc = 14 then 2 else 0
abbrev hdOk4 (B : List Nat) : Prop := 4 <= B.length /\ B.getD 0 0 = 255 /\ (B.getD 1 0 = 248 ∨ B.getD 1 0 = 249) /\ B.getD 3 0 % 2 = 0
def sizR (B : List Nat) (a sc : Nat) : Nat := if sc = 6 then B.getD a 0 + 1 else if sc = 7 then B.getD a 0 * 256 + B.getD (a + 1) 0 + 1 else (sizN sc).toNat
def ratR (B : List Nat) (a rc : Nat) : Nat := if rc = 12 then B.getD a 0 * 1000 else if rc = 13 then B.getD a 0 * 256 + B.getD (a + 1) 0 else if rc = 14 then (B.getD a 0 * 256 + B.getD (a + 1) 0) * 10 else (ratN rc).toNat
theorem getD_byte (B : List Nat) (hB : ∀ b ∈ B, b < 256) (j : Nat) : B.getD j 0 < 256 := by
 rw [List.getD_eq_getElem?_getD]
 by_cases h : j < B.length
 ·rw [List.getElem?_eq_getElem h]; exact hB _ (List.getElem_mem h)
 ·rw [List.getElem?_eq_none (by omega)]; decide
theorem take2_at (B : List Nat) (a : Nat) (h : a + 1 < B.length) : (B.drop a).take 2 = [B.getD a 0, B.getD (a + 1) 0] := by
 rw [List.drop_eq_getElem_cons (by omega), List.drop_eq_getElem_cons h, List.getD_eq_getElem?_getD, List.getElem?_eq_getElem (by omega), List.getD_eq_getElem?_getD, List.getElem?_eq_getElem h]; rfl
theorem take4_at (B : List Nat) (h : 4 <= B.length) : B.take 4 = [B.getD 0 0, B.getD 1 0, B.getD 2 0, B.getD 3 0] := by
 match B, h with
 | b0 :: b1 :: b2 :: b3 :: t, _ => rfl
theorem sizN_all : ∀ c : Nat, c < 16 -> (1 <= c -> c ≠ 6 -> c ≠ 7 -> 1 <= sizN c) /\ 0 <= sizN c := by decide
theorem ratN_all : ∀ c : Nat, c < 16 -> 0 <= ratN c := by decide
abbrev hdFit (i : Inf) (size rate sc rc cc wc : Nat) : Prop := ¬ sc = 0 /\ size <= 4608 /\ ¬ rc = 15 /\ (rc = 0 ∨ (rate : Int) = i.rate) /\ cc <= 10 /\ (if 8 <= cc then (2 : Int) else (cc : Int) + 1) = i.ch /\ (wc = 0 ∨ (¬ wc = 3 /\ ¬ wc = 7 /\ widN wc = i.wd))
def moN (cc : Nat) : Int := if 8 <= cc then (cc : Int) - 7 else 0
def hdFm (B : List Nat) (num k : Nat) (S : List Sb) : Fm := ⟨decide (B.getD 1 0 = 249), (num : Nat), (sizR B (4 + k) (B.getD 2 0 / 16) : Nat), ((B.getD 2 0 / 16 : Nat) : Int), ((B.getD 2 0 % 16 : Nat) : Int), ((B.getD 3 0 % 16 / 2 : Nat) : Int), moN (B.getD 3 0 / 16), S⟩
theorem getD_behind (A X : List Nat) (j : Nat) : (A ++ X).getD (A.length + j) 0 = X.getD j 0 := by
 rw [List.getD_eq_getElem?_getD, List.getElem?_append_right (by omega), List.getD_eq_getElem?_getD, show A.length + j - A.length = j by omega]
theorem rc_rng {f : Fm} {i : Inf} (h : saysR f i) : 0 <= f.rc /\ f.rc <= 14 := by rcases h with h | h | h | h | h <;> omega
theorem wc_rng {f : Fm} {i : Inf} (h : saysW f i) : 0 <= f.wc /\ f.wc <= 6 /\ ¬ f.wc = 3 := by rcases h with h | h <;> omega
theorem hed_back (f : Fm) (i : Inf) (R : List Nat) (h : okH f i) :
  hdOk4 (hedC f i ++ R) /\ uncode ((hedC f i ++ R).drop 4) = (f.num.toNat, clen f.num.toNat, 0) /\ ((hedC f i ++ R).getD 1 0 = 249 ∨ f.num.toNat <= 2147483647)
  /\ (hedC f i ++ R).getD 2 0 / 16 = f.sc.toNat /\ (hedC f i ++ R).getD 2 0 % 16 = f.rc.toNat /\ (hedC f i ++ R).getD 3 0 % 16 / 2 = f.wc.toNat /\ moN ((hedC f i ++ R).getD 3 0 / 16) = f.mo
  /\ (hedC f i).length = 4 + clen f.num.toNat + extN f.sc.toNat + rwN f.rc.toNat + 1
  /\ (hedC f i ++ R).getD (4 + clen f.num.toNat + extN f.sc.toNat + rwN f.rc.toNat) 0 = crc8N ((hedC f i ++ R).take (4 + clen f.num.toNat + extN f.sc.toNat + rwN f.rc.toNat))
  /\ hdFm (hedC f i ++ R) f.num.toNat (clen f.num.toNat) f.S = f
  /\ hdFit i (sizR (hedC f i ++ R) (4 + clen f.num.toNat) f.sc.toNat) (ratR (hedC f i ++ R) (4 + clen f.num.toNat + extN f.sc.toNat) f.rc.toNat) f.sc.toNat f.rc.toNat ((hedC f i ++ R).getD 3 0 / 16) f.wc.toNat := by
 obtain ⟨hi, hsz, hnum, hmo, hz, hr, hw⟩ := h
 have hrr := rc_rng hr
 have hwr := wc_rng hw
 obtain ⟨B, hB⟩ : ∃ B, B = hedC f i ++ R := ⟨_, rfl⟩
 have hB1 : B = fourL f i ++ (codeL f.num.toNat (clen f.num.toNat) ++ (sizL f ++ (ratL f i ++ ([crc8N (hedL f i)] ++ R)))) := by
  rw [hB]; unfold hedC hedL; simp only [List.append_assoc]
 have hfl : (fourL f i).length = 4 := rfl
 have hcl : (codeL f.num.toNat (clen f.num.toNat)).length = clen f.num.toNat := codeL_length _ _
 have hsl : (sizL f).length = extN f.sc.toNat := by
  unfold sizL extN
  by_cases c6 : f.sc = 6
  ·rw [if_pos c6, if_pos (by omega)]; rfl
  ·by_cases c7 : f.sc = 7
   ·rw [if_neg c6, if_pos c7, if_neg (by omega), if_pos (by omega)]; rfl
   ·rw [if_neg c6, if_neg c7, if_neg (by omega), if_neg (by omega)]; rfl
 have hrl : (ratL f i).length = rwN f.rc.toNat := by
  unfold ratL rwN
  by_cases c12 : f.rc = 12
  ·rw [if_pos c12, if_pos (by omega)]; rfl
  ·by_cases c13 : f.rc = 13
   ·rw [if_neg c12, if_pos c13, if_neg (by omega), if_pos (by omega)]; rfl
   ·by_cases c14 : f.rc = 14
    ·rw [if_neg c12, if_neg c13, if_pos c14, if_neg (by omega), if_neg (by omega), if_pos (by omega)]; rfl
    ·rw [if_neg c12, if_neg c13, if_neg c14, if_neg (by omega), if_neg (by omega), if_neg (by omega)]; rfl
 have g0 : B.getD 0 0 = 255 := by rw [hB1]; rfl
 have g1 : B.getD 1 0 = 248 + (if f.v then 1 else 0) := by rw [hB1]; rfl
 have g2 : B.getD 2 0 = (f.sc * 16 + f.rc).toNat := by rw [hB1]; rfl
 have g3 : B.getD 3 0 = ((if f.mo = 0 then i.ch - 1 else 7 + f.mo) * 16 + f.wc * 2).toNat := by rw [hB1]; rfl
 have e2 : B.getD 2 0 / 16 = f.sc.toNat /\ B.getD 2 0 % 16 = f.rc.toNat := by rw [g2]; omega
 have e3 : B.getD 3 0 % 16 / 2 = f.wc.toNat /\ B.getD 3 0 % 2 = 0 /\ B.getD 3 0 / 16 = (if f.mo = 0 then i.ch - 1 else 7 + f.mo).toNat := by
  rw [g3]
  by_cases c : f.mo = 0
  ·rw [if_pos c]; omega
  ·rw [if_neg c]; omega
 have hm : moN (B.getD 3 0 / 16) = f.mo := by
  rw [e3.2.2]
  unfold moN
  by_cases c : f.mo = 0
  ·rw [if_pos c, if_neg (by omega)]; exact c.symm
  ·rw [if_neg c, if_pos (by omega)]; omega
 have hhl : (hedC f i).length = 4 + clen f.num.toNat + extN f.sc.toNat + rwN f.rc.toNat + 1 := by
  unfold hedC hedL
  simp only [List.length_append, hfl, hcl, hsl, hrl, List.length_singleton]
 have hhl2 : (hedL f i).length = 4 + clen f.num.toNat + extN f.sc.toNat + rwN f.rc.toNat := by
  unfold hedL
  simp only [List.length_append, hfl, hcl, hsl, hrl]
 have hBL : B = hedL f i ++ ([crc8N (hedL f i)] ++ R) := by rw [hB]; unfold hedC; rw [List.append_assoc]
 have hlenB : 4 + clen f.num.toNat + extN f.sc.toNat + rwN f.rc.toNat + 1 <= B.length := by rw [hB, List.length_append, hhl]; omega
 have hS4 : ∀ j, B.getD (4 + clen f.num.toNat + j) 0 = (sizL f ++ (ratL f i ++ ([crc8N (hedL f i)] ++ R))).getD j 0 := fun j => by
  have e : B = (fourL f i ++ codeL f.num.toNat (clen f.num.toNat)) ++ (sizL f ++ (ratL f i ++ ([crc8N (hedL f i)] ++ R))) := by rw [hB1, List.append_assoc]
  have hl : (fourL f i ++ codeL f.num.toNat (clen f.num.toNat)).length = 4 + clen f.num.toNat := by rw [List.length_append, hfl, hcl]
  rw [e, <- hl, getD_behind]
 have hR4 : ∀ j, B.getD (4 + clen f.num.toNat + extN f.sc.toNat + j) 0 = (ratL f i ++ ([crc8N (hedL f i)] ++ R)).getD j 0 := fun j => by
  rw [Nat.add_assoc (4 + clen f.num.toNat), hS4, <- hsl, getD_behind]
 have hsize : (sizR B (4 + clen f.num.toNat) f.sc.toNat : Int) = f.size := by
  unfold sizR
  by_cases c6 : f.sc = 6
  ·rw [if_pos (by omega)]
   have := hS4 0
   unfold sizL at this
   rw [if_pos c6] at this
   have e : B.getD (4 + clen f.num.toNat) 0 = (f.size - 1).toNat := this
   rw [e]; omega
  ·by_cases c7 : f.sc = 7
   ·rw [if_neg (by omega), if_pos (by omega)]
    have h0 := hS4 0
    have h1 := hS4 1
    unfold sizL at h0 h1
    rw [if_neg c6, if_pos c7] at h0 h1
    have e0 : B.getD (4 + clen f.num.toNat) 0 = (f.size - 1).toNat / 256 := h0
    have e1 : B.getD (4 + clen f.num.toNat + 1) 0 = (f.size - 1).toNat % 256 := h1
    rw [e0, e1]; omega
   ·rw [if_neg (by omega), if_neg (by omega)]
    have hc : ((f.sc.toNat : Nat) : Int) = f.sc := by omega
    rw [hc]
    rcases hz.2 with h | h | h
    ·omega
    ·omega
    ·omega
 have hrate : f.rc = 0 ∨ (ratR B (4 + clen f.num.toNat + extN f.sc.toNat) f.rc.toNat : Int) = i.rate := by
  by_cases c0 : f.rc = 0
  ·exact .inl c0
  refine .inr ?_
  have h0 := hR4 0
  have h1 := hR4 1
  unfold ratR
  unfold ratL at h0 h1
  by_cases c12 : f.rc = 12
  ·rw [if_pos (by omega)]
   rw [if_pos c12] at h0
   have e : B.getD (4 + clen f.num.toNat + extN f.sc.toNat) 0 = (i.rate / 1000).toNat := h0
   rw [e]
   rcases hr with h | h | h | h | h <;> omega
  ·by_cases c13 : f.rc = 13
   ·rw [if_neg (by omega), if_pos (by omega)]
    rw [if_neg c12, if_pos c13] at h0 h1
    have e0 : B.getD (4 + clen f.num.toNat + extN f.sc.toNat) 0 = i.rate.toNat / 256 := h0
    have e1 : B.getD (4 + clen f.num.toNat + extN f.sc.toNat + 1) 0 = i.rate.toNat % 256 := h1
    rw [e0, e1]
    omega
   ·by_cases c14 : f.rc = 14
    ·rw [if_neg (by omega), if_neg (by omega), if_pos (by omega)]
     rw [if_neg c12, if_neg c13, if_pos c14] at h0 h1
     have e0 : B.getD (4 + clen f.num.toNat + extN f.sc.toNat) 0 = (i.rate / 10).toNat / 256 := h0
     have e1 : B.getD (4 + clen f.num.toNat + extN f.sc.toNat + 1) 0 = (i.rate / 10).toNat % 256 := h1
     rw [e0, e1]
     rcases hr with h | h | h | h | h <;> omega
    ·rw [if_neg (by omega), if_neg (by omega), if_neg (by omega)]
     have hc : ((f.rc.toNat : Nat) : Int) = f.rc := by omega
     rw [hc]
     rcases hr with h | h | h | h | h <;> omega
 have hv : decide (B.getD 1 0 = 249) = f.v := by
  rw [g1]
  cases f.v <;> rfl
 rw [<- hB]
 refine ⟨⟨by omega, g0, ?_, e3.2.1⟩, ?_, ?_, e2.1, e2.2, e3.1, hm, hhl, ?_, ?_, ?_⟩
 ·rw [g1]; cases f.v
  ·exact .inl rfl
  ·exact .inr rfl
 ·have e : B.drop 4 = codeL f.num.toNat (clen f.num.toNat) ++ (sizL f ++ (ratL f i ++ ([crc8N (hedL f i)] ++ R))) := by rw [hB1]; rfl
  have hn : f.num.toNat < 68719476736 := by
   have := hnum.2
   split at this <;> omega
  rw [e]
  exact uncode_code _ hn _
 ·rw [g1]
  have := hnum.2
  cases hvv : f.v with
  | true => exact .inl rfl
  | false =>
   rw [hvv] at this
   exact .inr (by
    have h2 : f.num <= 2147483647 := this
    omega)
 ·have h1 := getD_behind (hedL f i) ([crc8N (hedL f i)] ++ R) 0
  rw [<- hBL, hhl2, Nat.add_zero] at h1
  have h2 : B.take (4 + clen f.num.toNat + extN f.sc.toNat + rwN f.rc.toNat) = hedL f i := by
   rw [<- hhl2, hBL, List.take_append_of_le_length (Nat.le_refl _), List.take_length]
  rw [h1, h2]; rfl
 ·unfold hdFm
  rw [hv, e2.1, e2.2, e3.1, hm, hsize]
  have x1 : ((f.num.toNat : Nat) : Int) = f.num := by omega
  have x2 : ((f.sc.toNat : Nat) : Int) = f.sc := by omega
  have x3 : ((f.rc.toNat : Nat) : Int) = f.rc := by omega
  have x4 : ((f.wc.toNat : Nat) : Int) = f.wc := by omega
  rw [x1, x2, x3, x4]
 ·refine ⟨by omega, by omega, by omega, ?_, ?_, ?_, ?_⟩
  ·rcases hrate with h | h
   ·exact .inl (by omega)
   ·exact .inr h
  ·rw [e3.2.2]
   by_cases c : f.mo = 0
   ·rw [if_pos c]; omega
   ·rw [if_neg c]; omega
  ·rw [e3.2.2]
   by_cases c : f.mo = 0
   ·rw [if_pos c, if_neg (by omega)]; omega
   ·rw [if_neg c, if_pos (by omega)]; omega
  ·have x4 : ((f.wc.toNat : Nat) : Int) = f.wc := by omega
   rcases hw with h | ⟨h1, h2, h3⟩
   ·exact .inl (by omega)
   ·exact .inr ⟨by omega, by omega, by rw [x4]; exact h3⟩
def chB (i : Inf) (mo : Int) (S : List Sb) (L : List (List Int)) : Nat -> List Nat
 | 0 => []
 | n + 1 => chB i mo S L n ++ subB (S.getD n Sb0) (wdA i mo n) (L.getD n [])
theorem subsB_ch (f : Fm) (i : Inf) (P : List (List Int)) (n : Nat) : subsB f i P n = chB i f.mo f.S (chnL f.mo P) n := by
 induction n with
 | zero => rfl
 | succ n ih =>
  show subsB f i P n ++ _ = chB i f.mo f.S (chnL f.mo P) n ++ _
  rw [ih]
def subsP (s : ByteArray) (a : Nat) (i : Inf) (mo size : Int) : Nat -> Option (List (List Int) × List Sb × Nat)
 | 0 => some ([], [], a)
 | n + 1 => match subsP s a i mo size n with
  | none => none
  | some (L, S, a1) => match decS s a1 size (wdA i mo n) with
   | none => none
   | some (l, q, a2) => some (L ++ [l], S ++ [q], a2)
theorem subsP_none {s : ByteArray} {a : Nat} {i : Inf} {mo size : Int} {n : Nat} (m : Nat) (h : subsP s a i mo size n = none) (hm : n <= m) : subsP s a i mo size m = none := by
 induction m with
 | zero => rw [show n = 0 by omega] at h; exact h
 | succ m ih =>
  by_cases e : n = m + 1
  ·rw [<- e]; exact h
  ·show (match subsP s a i mo size m with
    | none => none
    | some (L, S, a1) => match decS s a1 size (wdA i mo m) with
     | none => none
     | some (l, q, a2) => some (L ++ [l], S ++ [q], a2)) = none
   rw [ih (by omega)]
theorem getD_snoc {α : Type} (l : List α) (x d : α) (j n : Nat) (hn : l.length = n) : (l ++ [x]).getD j d = if j < n then l.getD j d else if j = n then x else d := by
 rw [List.getD_eq_getElem?_getD, List.getD_eq_getElem?_getD]
 by_cases h : j < n
 ·rw [if_pos h, List.getElem?_append_left (by omega)]
 ·rw [if_neg h, List.getElem?_append_right (by omega)]
  by_cases e : j = n
  ·rw [if_pos e, show j - l.length = 0 by omega]; rfl
  ·rw [if_neg e, List.getElem?_eq_none (by simp; omega)]; rfl
theorem chB_congr (i : Inf) (mo : Int) (S S2 : List Sb) (L L2 : List (List Int)) (n : Nat) (h : ∀ c, c < n -> S.getD c Sb0 = S2.getD c Sb0 /\ L.getD c [] = L2.getD c []) : chB i mo S L n = chB i mo S2 L2 n := by
 induction n with
 | zero => rfl
 | succ n ih =>
  show chB i mo S L n ++ _ = chB i mo S2 L2 n ++ _
  rw [ih (fun c hc => h c (by omega)), (h n (by omega)).1, (h n (by omega)).2]
theorem subs_again {s : ByteArray} {a : Nat} {i : Inf} {mo size : Int} (hsz : 1 <= size /\ size <= 65535) (hw : 4 <= i.wd /\ i.wd <= 24) : ∀ {n : Nat} {L : List (List Int)} {S : List Sb} {a1 : Nat}, subsP s a i mo size n = some (L, S, a1) ->
  L.length = n /\ S.length = n /\ (∀ c, c < n -> subOk (S.getD c Sb0) size (wdA i mo c) /\ goesOk (S.getD c Sb0) (wdA i mo c) (L.getD c []) /\ ((L.getD c []).length : Int) = size) /\ ahead s a = chB i mo S L n ++ ahead s a1 /\ a1 = a + (chB i mo S L n).length := by
 intro n
 induction n with
 | zero =>
  intro L S a1 h
  cases h
  exact ⟨rfl, rfl, fun c hc => absurd hc (Nat.not_lt_zero c), rfl, rfl⟩
 | succ n ih =>
  intro L S a1 h
  unfold subsP at h
  cases hp : subsP s a i mo size n with
  | none => rw [hp] at h; cases h
  | some p =>
   obtain ⟨L0, S0', a0⟩ := p
   rw [hp] at h
   simp only at h
   obtain ⟨e1, e2, e3, e4, e5⟩ := ih hp
   cases hd : decS s a0 size (wdA i mo n) with
   | none => rw [hd] at h; cases h
   | some p2 =>
    obtain ⟨l, q, a2⟩ := p2
    rw [hd] at h
    simp only at h
    cases h
    have hwd : 1 <= wdA i mo n /\ wdA i mo n <= 33 := by unfold wdA; split <;> omega
    obtain ⟨s1, s3, s2, s4, s5⟩ := sub_again hsz hwd hd
    have hc1 : chB i mo (S0' ++ [q]) (L0 ++ [l]) n = chB i mo S0' L0 n := chB_congr i mo _ _ _ _ n (fun c hc => by
     rw [getD_snoc S0' q Sb0 c n e2, getD_snoc L0 l [] c n e1, if_pos hc, if_pos hc]; exact ⟨rfl, rfl⟩)
    have hc2 : chB i mo (S0' ++ [q]) (L0 ++ [l]) (n + 1) = chB i mo S0' L0 n ++ subB q (wdA i mo n) l := by
     show chB i mo (S0' ++ [q]) (L0 ++ [l]) n ++ subB ((S0' ++ [q]).getD n Sb0) (wdA i mo n) ((L0 ++ [l]).getD n []) = _
     rw [hc1, getD_snoc S0' q Sb0 n n e2, getD_snoc L0 l [] n n e1, if_neg (Nat.lt_irrefl n), if_pos rfl, if_neg (Nat.lt_irrefl n), if_pos rfl]
    refine ⟨by simp [e1], by simp [e2], fun c hc => ?_, ?_, ?_⟩
    ·rw [getD_snoc S0' q Sb0 c n e2, getD_snoc L0 l [] c n e1]
     by_cases hcn : c < n
     ·rw [if_pos hcn, if_pos hcn]; exact e3 c hcn
     ·have ec : c = n := by omega
      subst ec
      rw [if_neg (Nat.lt_irrefl c), if_pos rfl, if_neg (Nat.lt_irrefl c), if_pos rfl]
      exact ⟨s1, s2, s3⟩
    ·rw [hc2, List.append_assoc, <- s4, <- e4]
    ·rw [hc2, List.length_append, s5, e5]; omega
theorem subs_back {s : ByteArray} {a : Nat} {i : Inf} {mo size : Int} (S : List Sb) (L : List (List Int)) : ∀ (n : Nat), n <= S.length -> n <= L.length -> (∀ c, c < n -> subOk (S.getD c Sb0) size (wdA i mo c) /\ goesOk (S.getD c Sb0) (wdA i mo c) (L.getD c []) /\ ((L.getD c []).length : Int) = size) -> ∀ R, ahead s a = chB i mo S L n ++ R -> a + (chB i mo S L n).length <= 8 * s.size ->
  subsP s a i mo size n = some (L.take n, S.take n, a + (chB i mo S L n).length) := by
 intro n
 induction n with
 | zero => intro _ _ _ R _ _; rfl
 | succ n ih =>
  intro hS hL hall R hR hle
  have hc : chB i mo S L (n + 1) = chB i mo S L n ++ subB (S.getD n Sb0) (wdA i mo n) (L.getD n []) := rfl
  rw [hc, List.length_append] at hle
  rw [hc, List.append_assoc] at hR
  have h1 := ih (by omega) (by omega) (fun c hc2 => hall c (by omega)) _ hR (by omega)
  have h2 := ahead_next hR
  obtain ⟨k1, k2, k3⟩ := hall n (by omega)
  have h3 := sub_back s (a + (chB i mo S L n).length) (S.getD n Sb0) size (wdA i mo n) (L.getD n []) k1 k3 k2 R h2 (by omega)
  show (match subsP s a i mo size n with
   | none => none
   | some (L, S, a1) => match decS s a1 size (wdA i mo n) with
    | none => none
    | some (l, q, a2) => some (L ++ [l], S ++ [q], a2)) = _
  rw [h1]
  simp only
  rw [h3]
  simp only
  have tk : ∀ {α : Type} (l : List α) (d : α), n < l.length -> l.take n ++ [l.getD n d] = l.take (n + 1) := fun l d h => by
   rw [List.take_add_one, List.getD_eq_getElem?_getD, List.getElem?_eq_getElem h]; rfl
  rw [tk L [] (by omega), tk S Sb0 (by omega), hc, List.length_append, Nat.add_assoc]
theorem bits8_inj (b c : Nat) (hb : b < 256) (hc : c < 256) (h : bitsOf b 8 = bitsOf c 8) : b = c := by
 have := congrArg num h
 rw [num_bitsOf, num_bitsOf] at this
 have e : (2 : Nat) ^ 8 = 256 := by decide
 rw [e] at this
 omega
theorem sbits_inj : ∀ (X Y : List Nat), (∀ b ∈ X, b < 256) -> (∀ b ∈ Y, b < 256) -> sbits X = sbits Y -> X = Y
 | [], [], _, _, _ => rfl
 | [], y :: Y, _, _, h => by have := congrArg List.length h; rw [sbits_length, sbits_length] at this; simp at this
 | x :: X, [], _, _, h => by have := congrArg List.length h; rw [sbits_length, sbits_length] at this; simp at this
 | x :: X, y :: Y, hx, hy, h => by
  have e1 : sbits (x :: X) = bitsOf x 8 ++ sbits X := rfl
  have e2 : sbits (y :: Y) = bitsOf y 8 ++ sbits Y := rfl
  rw [e1, e2] at h
  obtain ⟨h1, h2⟩ := List.append_inj h (by rw [bitsOf_length, bitsOf_length])
  rw [bits8_inj x y (hx x (List.mem_cons_self)) (hy y (List.mem_cons_self)) h1, sbits_inj X Y (fun b hb => hx b (List.mem_cons_of_mem _ hb)) (fun b hb => hy b (List.mem_cons_of_mem _ hb)) h2]
def plnL (mo : Int) (L : List (List Int)) : List (List Int) := if mo = 0 then L else [zipN (unP mo.toNat) (L.getD 0 []) (L.getD 1 []) (L.getD 0 []).length, zipN (unQ mo.toNat) (L.getD 0 []) (L.getD 1 []) (L.getD 0 []).length]
theorem chB_01 (i : Inf) (mo : Int) (S : List Sb) (L : List (List Int)) (n : Nat) : Bits01 (chB i mo S L n) := by
 induction n with
 | zero => exact Bits01.nil
 | succ n ih => exact ih.append (subB_01 _ _ _)
theorem pack_lt (bits : List Nat) (h : Bits01 bits) : ∀ b ∈ pack bits, b < 256 := fun b hb => by
 obtain ⟨j, _, rfl⟩ := List.mem_map.1 hb
 exact byteOf_lt bits h j
theorem getD_mem' (L : List (List Int)) (c : Nat) (h : c < L.length) : L.getD c [] ∈ L := by
 rw [List.getD_eq_getElem?_getD, List.getElem?_eq_getElem h]; exact List.getElem_mem h
theorem mem_getD' (L : List (List Int)) (l : List Int) (h : l ∈ L) : ∃ c, c < L.length /\ L.getD c [] = l := by
 obtain ⟨c, hc, rfl⟩ := List.getElem_of_mem h
 exact ⟨c, hc, by rw [List.getD_eq_getElem?_getD, List.getElem?_eq_getElem hc]; rfl⟩
theorem sbits_behind (D : List Nat) (m : Nat) (hm : m <= D.length) : (sbits D).drop (8 * m) = sbits (D.drop m) := by
 have e : sbits D = sbits (D.take m) ++ sbits (D.drop m) := by rw [<- sbits_append, List.take_append_drop]
 have hl : (sbits (D.take m)).length = 8 * m := by rw [sbits_length, List.length_take]; omega
 rw [e, <- hl, List.drop_left]
theorem pln_chn (mo : Int) (P : List (List Int)) (h2 : ¬ mo = 0 -> P.length = 2) (hl : ¬ mo = 0 -> (P.getD 0 []).length = (P.getD 1 []).length) : plnL mo (chnL mo P) = P := by
 unfold chnL plnL
 by_cases c : mo = 0
 ·rw [if_pos c, if_pos c]
 ·rw [if_neg c, if_neg c]
  obtain ⟨a, b, rfl⟩ : ∃ a b, P = [a, b] := by
   have := h2 c
   match P, this with
   | [a, b], _ => exact ⟨a, b, rfl⟩
  have hab : a.length = b.length := hl c
  show [zipN (unP mo.toNat) (zipN (stP mo.toNat) a b a.length) (zipN (stQ mo.toNat) a b a.length) (zipN (stP mo.toNat) a b a.length).length, zipN (unQ mo.toNat) (zipN (stP mo.toNat) a b a.length) (zipN (stQ mo.toNat) a b a.length) (zipN (stP mo.toNat) a b a.length).length] = [a, b]
  rw [zipN_len]
  obtain ⟨e1, e2⟩ := stereo_back mo.toNat a b hab
  rw [e1, e2]
theorem chnL_len (mo : Int) (P : List (List Int)) (ch : Int) (hP : (P.length : Int) = ch) (h : mo = 0 ∨ ch = 2) : ((chnL mo P).length : Int) = ch := by
 unfold chnL
 by_cases c : mo = 0
 ·rw [if_pos c]; exact hP
 ·rw [if_neg c]
  rcases h with h | h
  ·exact absurd h c
  ·rw [h]; rfl
theorem chnL_size (mo : Int) (P : List (List Int)) (size : Int) (hl : ∀ l ∈ P, (l.length : Int) = size) (h0 : 0 < P.length) : ∀ c, c < (chnL mo P).length -> (((chnL mo P).getD c []).length : Int) = size := fun c hc => by
 unfold chnL at hc ⊢
 by_cases e : mo = 0
 ·rw [if_pos e] at hc ⊢
  exact hl _ (getD_mem' P c hc)
 ·rw [if_neg e] at hc ⊢
  have h := hl _ (getD_mem' P 0 h0)
  have hc2 : c < 2 := hc
  rcases (show c = 0 ∨ c = 1 by omega) with rfl | rfl
  ·show ((zipN (stP mo.toNat) (P.getD 0 []) (P.getD 1 []) (P.getD 0 []).length).length : Int) = size
   rw [zipN_len]; exact h
  ·show ((zipN (stQ mo.toNat) (P.getD 0 []) (P.getD 1 []) (P.getD 0 []).length).length : Int) = size
   rw [zipN_len]; exact h
theorem fr_back (f : Fm) (i : Inf) (P : List (List Int)) (R : List Nat) (s : ByteArray) (h : okF f i P) (hs : bytesOf s = frL f i P ++ R) :
  ∃ R2, frL f i P ++ R = hedC f i ++ R2
  /\ subsP s (8 * (hedC f i).length) i f.mo f.size i.ch.toNat = some (chnL f.mo P, f.S, 8 * (hedC f i).length + (subsB f i P f.S.length).length)
  /\ plnL f.mo (chnL f.mo P) = P
  /\ (ahead s (8 * (hedC f i).length + (subsB f i P f.S.length).length)).take (8 * (((subsB f i P f.S.length).length + 7) / 8) - (subsB f i P f.S.length).length) = List.replicate (8 * (((subsB f i P f.S.length).length + 7) / 8) - (subsB f i P f.S.length).length) 0
  /\ (frL f i P).length = (hedC f i).length + ((subsB f i P f.S.length).length + 7) / 8 + 2
  /\ ((frL f i P ++ R).drop ((hedC f i).length + ((subsB f i P f.S.length).length + 7) / 8)).take 2 = be2 (crc16N ((frL f i P ++ R).take ((hedC f i).length + ((subsB f i P f.S.length).length + 7) / 8))) := by
 obtain ⟨⟨hH, hS, hsub⟩, ⟨hP, hpl⟩, hgo⟩ := h
 have hmo := hH.2.2.2.1
 have hch : ((i.ch.toNat : Nat) : Int) = i.ch := by have := hH.1.1; omega
 have hSn : f.S.length = i.ch.toNat := by omega
 have hP0 : 0 < P.length := by have := hH.1.1; omega
 have hcl := chnL_len f.mo P i.ch hP hmo.2.2
 have hcn : (chnL f.mo P).length = i.ch.toNat := by omega
 have hcs := chnL_size f.mo P f.size (fun l hl => (hpl l hl).1) hP0
 obtain ⟨bits, hbits⟩ : ∃ bits, bits = subsB f i P f.S.length := ⟨_, rfl⟩
 have hb2 : bits = chB i f.mo f.S (chnL f.mo P) i.ch.toNat := by rw [hbits, subsB_ch, hSn]
 have h01 : Bits01 bits := by rw [hb2]; exact chB_01 _ _ _ _ _
 rw [<- hbits]
 have hfr : frL f i P ++ R = hedC f i ++ (pack bits ++ (be2 (crc16N (hedC f i ++ pack bits)) ++ R)) := by
  unfold frL outL; rw [<- hbits]; simp only [List.append_assoc]
 have hpl2 : (pack bits).length = (bits.length + 7) / 8 := pack_length bits
 have hsp : sbits (pack bits) = bits ++ List.replicate (8 * ((bits.length + 7) / 8) - bits.length) 0 := by
  have h1 := sbits_packN bits h01 (8 * ((bits.length + 7) / 8) - bits.length) ((bits.length + 7) / 8) (by omega)
  show sbits (packN bits ((bits.length + 7) / 8)) = _
  rw [h1, List.take_of_length_le (by rw [List.length_append, List.length_replicate]; omega)]
 have hah : ahead s (8 * (hedC f i).length) = bits ++ (List.replicate (8 * ((bits.length + 7) / 8) - bits.length) 0 ++ sbits (be2 (crc16N (hedC f i ++ pack bits)) ++ R)) := by
  unfold ahead
  rw [hs, hfr, sbits_behind _ _ (by rw [List.length_append]; omega), List.drop_left, sbits_append, hsp, List.append_assoc]
 have hsl : s.size = (hedC f i).length + ((pack bits).length + ((be2 (crc16N (hedC f i ++ pack bits))).length + R.length)) := by
  rw [<- bytesOf_length, hs, hfr]; simp only [List.length_append]
 have hsize : 8 * (hedC f i).length + bits.length <= 8 * s.size := by
  rw [hsl, hpl2]; omega
 refine ⟨_, hfr, ?_, ?_, ?_, ?_, ?_⟩
 ·have hsb := subs_back (s := s) (a := 8 * (hedC f i).length) (i := i) (mo := f.mo) (size := f.size) f.S (chnL f.mo P) i.ch.toNat (by omega) (by omega) (fun c hc => ⟨hsub c (by omega), hgo c (by omega), hcs c (by omega)⟩) _ (by rw [<- hb2]; exact hah) (by rw [<- hb2]; omega)
  rw [hsb, <- hb2, List.take_of_length_le (by omega), List.take_of_length_le (by omega)]
 ·refine pln_chn f.mo P (fun c => ?_) (fun c => ?_)
  ·rcases hmo.2.2 with h | h
   ·exact absurd h c
   ·omega
  ·have h2 : P.length = 2 := by
    rcases hmo.2.2 with h | h
    ·exact absurd h c
    ·omega
   have e0 := (hpl _ (getD_mem' P 0 (by omega))).1
   have e1 := (hpl _ (getD_mem' P 1 (by omega))).1
   omega
 ·have h1 := ahead_next hah
  rw [h1, List.take_append_of_le_length (by rw [List.length_replicate]; exact Nat.le_refl _), List.take_of_length_le (by rw [List.length_replicate]; exact Nat.le_refl _)]
 ·unfold frL
  rw [outL_len, <- hbits, List.length_append, hpl2]
 ·have e1 : frL f i P ++ R = (hedC f i ++ pack bits) ++ (be2 (crc16N (hedC f i ++ pack bits)) ++ R) := by rw [hfr, List.append_assoc]
  have el : (hedC f i ++ pack bits).length = (hedC f i).length + (bits.length + 7) / 8 := by rw [List.length_append, hpl2]
  rw [e1, <- el, List.drop_left, List.take_left]
  rfl
theorem num_bitsOf' (v k : Nat) (h : v < 2 ^ k) : num (bitsOf v k) = v := by
 rw [num_bitsOf]
 exact Nat.mod_eq_of_lt h
theorem bits_at {s : ByteArray} {a k v : Nat} {Z : List Nat} (h : ahead s a = bitsOf v k ++ Z) (hv : v < 2 ^ k) : bitsAt s a k = v := by
 show num ((ahead s a).take k) = v
 have hl := bitsOf_length v k
 rw [h, List.take_append_of_le_length (by omega), List.take_of_length_le (by omega), num_bitsOf' v k hv]
theorem bits_step {s : ByteArray} {a W k m : Nat} {Z : List Nat} (h : ahead s a = bitsOf W (k + m) ++ Z) : bitsAt s a k = W / 2 ^ m % 2 ^ k /\ ahead s (a + k) = bitsOf W m ++ Z := by
 have e := bitsOf_add W k m
 rw [e, List.append_assoc] at h
 have e2 := bitsOf_mod (W / 2 ^ m) k k (Nat.le_refl _)
 have h3 := h
 rw [<- e2] at h
 refine ⟨bits_at h (Nat.mod_lt _ (Nat.two_pow_pos k)), ?_⟩
 have h4 := ahead_next h3
 rw [bitsOf_length] at h4
 exact h4
theorem sbits_one (b : Nat) : sbits [b] = bitsOf b 8 := by unfold sbits; simp
theorem sbits_two (a b : Nat) (hb : b < 256) : sbits [a, b] = bitsOf (a * 256 + b) 16 := by
 have e := bitsOf_add (a * 256 + b) 8 8
 rw [show (a * 256 + b) / 2 ^ 8 = a by omega, <- bitsOf_mod (a * 256 + b) 8 8 (Nat.le_refl _), show (a * 256 + b) % 2 ^ 8 = b by omega] at e
 rw [e, show [a, b] = [a] ++ [b] from rfl, sbits_append, sbits_one, sbits_one]
def wordN (B : List Nat) : Nat := ((B.getD 0 0 * 256 + B.getD 1 0) * 256 + B.getD 2 0) * 256 + B.getD 3 0
theorem four_bits (B : List Nat) (hB : ∀ b ∈ B, b < 256) (h4 : 4 <= B.length) : sbits (B.take 4) = bitsOf (wordN B) 32 := by
 have b1 := getD_byte B hB 1
 have b2 := getD_byte B hB 2
 have b3 := getD_byte B hB 3
 rw [take4_at B h4]
 unfold wordN
 generalize B.getD 0 0 = c0 at *
 generalize B.getD 1 0 = c1 at *
 generalize B.getD 2 0 = c2 at *
 generalize B.getD 3 0 = c3 at *
 have e := bitsOf_add (((c0 * 256 + c1) * 256 + c2) * 256 + c3) 16 16
 rw [show (((c0 * 256 + c1) * 256 + c2) * 256 + c3) / 2 ^ 16 = c0 * 256 + c1 by omega, <- bitsOf_mod (((c0 * 256 + c1) * 256 + c2) * 256 + c3) 16 16 (Nat.le_refl _), show (((c0 * 256 + c1) * 256 + c2) * 256 + c3) % 2 ^ 16 = c2 * 256 + c3 by omega] at e
 rw [e, show [c0, c1, c2, c3] = [c0, c1] ++ [c2, c3] from rfl, sbits_append, sbits_two _ _ b1, sbits_two _ _ b3]
theorem word_split (c0 c1 c2 c3 : Nat) (b0 : c0 < 256) (b1 : c1 < 256) (b2 : c2 < 256) (b3 : c3 < 256) (W : Nat) (hW : W = ((c0 * 256 + c1) * 256 + c2) * 256 + c3) :
  W / 131072 % 32768 = c0 * 128 + c1 / 2 /\ W / 65536 % 2 = c1 % 2 /\ W / 4096 % 16 = c2 / 16 /\ W / 256 % 16 = c2 % 16 /\ W / 16 % 16 = c3 / 16 /\ W / 2 % 8 = c3 % 16 / 2 /\ W % 2 = c3 % 2 := by
 refine ⟨?_, ?_, ?_, ?_, ?_, ?_, ?_⟩ <;> omega
theorem codes_at (s : ByteArray) (B : List Nat) (hs : bytesOf s = B) (h4 : 4 <= B.length) :
  bitsAt s 0 15 = B.getD 0 0 * 128 + B.getD 1 0 / 2 /\ bitsAt s 15 1 = B.getD 1 0 % 2 /\ bitsAt s 16 4 = B.getD 2 0 / 16 /\ bitsAt s 20 4 = B.getD 2 0 % 16 /\ bitsAt s 24 4 = B.getD 3 0 / 16 /\ bitsAt s 28 3 = B.getD 3 0 % 16 / 2 /\ bitsAt s 31 1 = B.getD 3 0 % 2 := by
 have hB : ∀ b ∈ B, b < 256 := by rw [<- hs]; exact bytesOf_lt s
 have h0 : ahead s 0 = bitsOf (wordN B) (15 + 17) ++ sbits (B.drop 4) := by
  unfold ahead
  rw [hs, List.drop_zero, show 15 + 17 = 32 from rfl, <- four_bits B hB h4, <- sbits_append, List.take_append_drop]
 obtain ⟨z1, z2, z3, z4, z5, z6, z7⟩ := word_split _ _ _ _ (getD_byte B hB 0) (getD_byte B hB 1) (getD_byte B hB 2) (getD_byte B hB 3) (wordN B) rfl
 generalize wordN B = W at *
 obtain ⟨a1, n1⟩ := bits_step (k := 15) (m := 17) h0
 obtain ⟨a2, n2⟩ := bits_step (a := 15) (k := 1) (m := 16) n1
 obtain ⟨a3, n3⟩ := bits_step (a := 16) (k := 4) (m := 12) n2
 obtain ⟨a4, n4⟩ := bits_step (a := 20) (k := 4) (m := 8) n3
 obtain ⟨a5, n5⟩ := bits_step (a := 24) (k := 4) (m := 4) n4
 obtain ⟨a6, n6⟩ := bits_step (a := 28) (k := 3) (m := 1) n5
 obtain ⟨a7, n7⟩ := bits_step (a := 31) (k := 1) (m := 0) n6
 refine ⟨a1.trans z1, a2.trans z2, a3.trans z3, a4.trans z4, a5.trans z5, a6.trans z6, ?_⟩
 rw [a7, Nat.pow_zero, Nat.div_one]; exact z7
theorem byte_at8 (s : ByteArray) (B : List Nat) (hs : bytesOf s = B) (j : Nat) (h : j < B.length) : bitsAt s (8 * j) 8 = B.getD j 0 := by
 have hB : ∀ b ∈ B, b < 256 := by rw [<- hs]; exact bytesOf_lt s
 have hb := getD_byte B hB j
 refine bits_at (Z := sbits (B.drop (j + 1))) ?_ (by omega)
 unfold ahead
 rw [hs, sbits_behind B j (by omega), <- sbits_one, <- sbits_append]
 congr 1
 rw [List.drop_eq_getElem_cons h, List.getD_eq_getElem?_getD, List.getElem?_eq_getElem h]; rfl
theorem byte_at16 (s : ByteArray) (B : List Nat) (hs : bytesOf s = B) (j : Nat) (h : j + 1 < B.length) : bitsAt s (8 * j) 16 = B.getD j 0 * 256 + B.getD (j + 1) 0 := by
 have hB : ∀ b ∈ B, b < 256 := by rw [<- hs]; exact bytesOf_lt s
 have hb := getD_byte B hB j
 have hb1 := getD_byte B hB (j + 1)
 refine bits_at (Z := sbits (B.drop (j + 2))) ?_ (by omega)
 unfold ahead
 rw [hs, sbits_behind B j (by omega), <- sbits_two _ _ hb1, <- sbits_append]
 congr 1
 rw [List.drop_eq_getElem_cons (show j < B.length by omega), List.drop_eq_getElem_cons h, List.getD_eq_getElem?_getD, List.getElem?_eq_getElem (by omega), List.getD_eq_getElem?_getD, List.getElem?_eq_getElem h]; rfl
theorem putB_of (v k : Nat) (hk : k <= 64) (h : v < 2 ^ k) : putB (v : Int) (k : Int) = bitsOf v k := by
 unfold putB
 rw [Int.toNat_natCast, Int.toNat_natCast, if_pos ⟨by omega, by omega, by rw [pow_int]; omega⟩]
theorem four_put (f : Fm) (i : Inf) (h : okH f i) : putB 32764 15 ++ putB (if f.v then 1 else 0) 1 ++ putB f.sc 4 ++ putB f.rc 4 ++ putB (if f.mo = 0 then i.ch - 1 else 7 + f.mo) 4 ++ putB f.wc 3 ++ putB 0 1 = sbits (fourL f i) := by
 obtain ⟨hi, hsz, hnum, hmo, hz, hr, hw⟩ := h
 have hrr := rc_rng hr
 have hwr := wc_rng hw
 have hzz := hz.1
 have hcc : 0 <= (if f.mo = 0 then i.ch - 1 else 7 + f.mo) /\ (if f.mo = 0 then i.ch - 1 else 7 + f.mo) < 16 := by
  have := hi.1
  split <;> omega
 unfold fourL
 generalize (if f.mo = 0 then i.ch - 1 else 7 + f.mo) = cc at *
 obtain ⟨c, rfl⟩ : ∃ n : Nat, cc = n := ⟨cc.toNat, by omega⟩
 clear hi hsz hnum hmo hz hr hw
 generalize f.sc = zsc at *
 generalize f.rc = zrc at *
 generalize f.wc = zwc at *
 obtain ⟨sc, rfl⟩ : ∃ n : Nat, zsc = n := ⟨zsc.toNat, by omega⟩
 obtain ⟨rc, rfl⟩ : ∃ n : Nat, zrc = n := ⟨zrc.toNat, by omega⟩
 obtain ⟨wc, rfl⟩ : ∃ n : Nat, zwc = n := ⟨zwc.toNat, by omega⟩
 have hvb : putB (if f.v then (1 : Int) else 0) 1 = bitsOf (if f.v then 1 else 0) 1 := by cases f.v <;> rfl
 have e15 : putB 32764 15 = bitsOf 32764 15 := putB_of 32764 15 (by decide) (by decide)
 have e0 : putB 0 1 = bitsOf 0 1 := putB_of 0 1 (by decide) (by decide)
 have e1 : putB (sc : Int) 4 = bitsOf sc 4 := putB_of sc 4 (by decide) (by omega)
 have e2 : putB (rc : Int) 4 = bitsOf rc 4 := putB_of rc 4 (by decide) (by omega)
 have e3 : putB (c : Int) 4 = bitsOf c 4 := putB_of c 4 (by decide) (by omega)
 have e4 : putB (wc : Int) 3 = bitsOf wc 3 := putB_of wc 3 (by decide) (by omega)
 rw [hvb, e15, e0, e1, e2, e3, e4]
 have hv : (if f.v then 1 else 0 : Nat) < 2 := by split <;> omega
 generalize (if f.v then 1 else 0 : Nat) = v at *
 have t1 : ((sc : Int) * 16 + rc).toNat = sc * 16 + rc := by omega
 have t2 : ((c : Int) * 16 + (wc : Int) * 2).toNat = c * 16 + wc * 2 := by omega
 rw [t1, t2]
 have join : ∀ (x y k m : Nat), y < 2 ^ m -> bitsOf x k ++ bitsOf y m = bitsOf (x * 2 ^ m + y) (k + m) := fun x y k m hy => by
  have hp : 0 < 2 ^ m := Nat.two_pow_pos m
  rw [bitsOf_add (x * 2 ^ m + y) k m, <- bitsOf_mod (x * 2 ^ m + y) m m (Nat.le_refl _), show (x * 2 ^ m + y) % 2 ^ m = y by rw [Nat.mul_comm, Nat.mul_add_mod, Nat.mod_eq_of_lt hy], show (x * 2 ^ m + y) / 2 ^ m = x by rw [Nat.mul_comm, Nat.mul_add_div hp, Nat.div_eq_of_lt hy, Nat.add_zero]]
 rw [join _ _ _ _ (by omega), join _ _ _ _ (by omega), join _ _ _ _ (by omega), join _ _ _ _ (by omega), join _ _ _ _ (by omega), join _ _ _ _ (by omega)]
 have e := four_bits [255, 248 + v, sc * 16 + rc, c * 16 + wc * 2] (fun b hb => by simp only [List.mem_cons, List.not_mem_nil, or_false] at hb; omega) (Nat.le_refl _)
 have e' : ([255, 248 + v, sc * 16 + rc, c * 16 + wc * 2] : List Nat).take 4 = [255, 248 + v, sc * 16 + rc, c * 16 + wc * 2] := rfl
 rw [e'] at e
 rw [e]
 congr 1
 show _ = ((255 * 256 + (248 + v)) * 256 + (sc * 16 + rc)) * 256 + (c * 16 + wc * 2)
 omega
theorem put_8 (v : Nat) (h : v < 256) : putB (v : Int) 8 = sbits [v] := by rw [sbits_one]; exact putB_of v 8 (by decide) (by omega)
theorem put_16 (v : Nat) (h : v < 65536) : putB (v : Int) 16 = sbits [v / 256, v % 256] := by
 rw [sbits_two _ _ (by omega), show v / 256 * 256 + v % 256 = v by omega]; exact putB_of v 16 (by decide) (by omega)
theorem pack_sbits (l : List Nat) (h : ∀ b ∈ l, b < 256) : pack (sbits l) = l := by
 apply sbits_inj _ _ (pack_lt _ (sbits_01 l)) h
 have h1 := sbits_packN (sbits l) (sbits_01 l) 0 (((sbits l).length + 7) / 8) (by rw [sbits_length]; omega)
 show sbits (packN (sbits l) (((sbits l).length + 7) / 8)) = _
 rw [h1, List.replicate_zero, List.append_nil, List.take_of_length_le (by rw [sbits_length]; omega)]
theorem pack_sbits_app (l bits : List Nat) (h : ∀ b ∈ l, b < 256) (h01 : Bits01 bits) : pack (sbits l ++ bits) = l ++ pack bits := by
 apply sbits_inj _ _ (pack_lt _ ((sbits_01 l).append h01)) (fun b hb => by
  rcases List.mem_append.1 hb with hb | hb
  ·exact h b hb
  ·exact pack_lt _ h01 b hb)
 obtain ⟨Z1, z1, l1⟩ := sbits_pack (sbits l ++ bits) ((sbits_01 l).append h01)
 have h2 := sbits_packN (sbits l ++ bits) ((sbits_01 l).append h01) (8 * ((bits.length + 7) / 8) - bits.length) (((sbits l ++ bits).length + 7) / 8) (by rw [List.length_append, sbits_length]; omega)
 have h3 := sbits_packN bits h01 (8 * ((bits.length + 7) / 8) - bits.length) ((bits.length + 7) / 8) (by omega)
 have e3 : sbits (pack bits) = bits ++ List.replicate (8 * ((bits.length + 7) / 8) - bits.length) 0 := by
  show sbits (packN bits ((bits.length + 7) / 8)) = _
  rw [h3, List.take_of_length_le (by rw [List.length_append, List.length_replicate]; omega)]
 rw [sbits_append, e3]
 show sbits (packN (sbits l ++ bits) (((sbits l ++ bits).length + 7) / 8)) = _
 rw [h2, List.take_of_length_le (by simp only [List.length_append, List.length_replicate, sbits_length]; omega), List.append_assoc]
end Go.Proofs.YtfpfabmbipmipaaGreatDoor
