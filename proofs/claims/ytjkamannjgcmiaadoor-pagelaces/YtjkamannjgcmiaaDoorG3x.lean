/- Own text: pages, plainly: what a page is, packets, a text of pages. a page that was laid is read, one that was read is laid. -/
import Derived.Test.YtjkamannjgcmiaaDoorG2x
namespace Go.Proofs.YtjkamannjgcmiaaDoor
open Go.RowKit
set_option linter.unusedSimpArgs false
set_option linter.unusedVariables false
/-- A page: its numbers and its laces. -/
structure Pg where
  fl : Int
  se : Int
  sq : Int
  gr : Int
  la : List Int
abbrev Pg0 : Pg := ⟨0, 0, 0, 0, []⟩
def seg (L : List Nat) (a b : Nat) : List Nat := (L.take b).drop a
def u8 (L : List Nat) (i : Nat) : Nat := L.getD i 0
def leN (L : List Nat) : Nat := S2.val L.reverse
/-- Its laces, where it ends, its sum. -/
def laN (L : List Nat) : List Nat := seg L 27 (27 + u8 L 26)
def endN (L : List Nat) : Nat := 27 + u8 L 26 + (laN L).sum
def oggN (L : List Nat) : Nat := (crcL p32 0#32 L).toNat
def zer4 : List Nat := [0, 0, 0, 0]
def sumL (L : List Nat) (e : Nat) : List Nat := seg L 0 22 ++ zer4 ++ seg L 26 e
def markL : List Nat := [79, 103, 103, 83, 0]
def ffL : List Nat := [255, 255, 255, 255, 255, 255, 255, 255]
def grN (L : List Nat) : Int := S2.fromBe (seg L 6 14).reverse
/-- A page stands at the beginning. -/
abbrev oneOk (L : List Nat) : Prop := 27 ≤ L.length ∧ seg L 0 5 = markL ∧ u8 L 5 ≤ 7 ∧ 27 + u8 L 26 ≤ L.length ∧ endN L ≤ L.length ∧ oggN (sumL L (endN L)) = leN (seg L 22 26) ∧ (0 ≤ grN L ∨ seg L 6 14 = ffL)
def pgN (L : List Nat) : Pg := ⟨(u8 L 5 : Nat), (leN (seg L 14 18) : Nat), (leN (seg L 18 22) : Nat), grN L, (laN L).map fun x : Nat => (x : Int)⟩
def bdN (L : List Nat) : List Nat := seg L (27 + u8 L 26) (endN L)
/-- Packets that laces cut out of bytes: those that are whole, whether one is open, what it has so far. -/
def cutL : List Nat → List Nat → List (List Nat) → Bool → List Nat → List (List Nat) × Bool × List Nat
  | [], _, K, op, hd => (K, op, hd)
  | x :: t, B, K, op, hd => if x = 255 then cutL t (B.drop x) K true (hd ++ B.take x) else cutL t (B.drop x) (K ++ [hd ++ B.take x]) false []
/-- What speaks against a page behind the pages P. -/
abbrev serOk (R : List Nat) (P : List Pg) : Prop := P.length = 0 ∨ (pgN R).se = (P.getD 0 Pg0).se
abbrev ordOk (R : List Nat) (P : List Pg) (op : Bool) : Prop := (pgN R).sq = P.length ∧ (u8 R 5 / 2 % 2 = 1 ↔ P.length = 0) ∧ (u8 R 5 % 2 = 1 ↔ op = true)
def pgE (R : List Nat) (P : List Pg) (op : Bool) : Int := if ¬ oneOk R then 2 else if P.length = 65536 then 5 else if ¬ serOk R P then 3 else if ¬ ordOk R P op then 2 else 0
/-- The last page's mark in the last one alone. -/
def lasB : List Pg → Bool
  | [] => true
  | [p] => decide (p.fl / 4 % 2 = 1)
  | p :: q :: t => decide (¬ p.fl / 4 % 2 = 1) && lasB (q :: t)
def finP (P : List Pg) (K : List (List Nat)) (op : Bool) : Int × List Pg × List (List Nat) := if lasB P = true ∧ op = false then (0, P, K) else (2, [], [])
def prs : Nat → List Nat → List Pg → List (List Nat) → Bool → List Nat → Int × List Pg × List (List Nat)
  | 0, _, _, _, _, _ => (2, [], [])
  | f + 1, R, P, K, op, hd => if R.length = 0 then finP P K op else if pgE R P op = 0 then prs f (R.drop (endN R)) (P ++ [pgN R]) (cutL (laN R) (bdN R) K op hd).1 (cutL (laN R) (bdN R) K op hd).2.1 (cutL (laN R) (bdN R) K op hd).2.2 else (pgE R P op, [], [])
/-- All of a text. -/
def prsP (L : List Nat) : Int × List Pg × List (List Nat) := if L.length = 0 then (2, [], []) else prs (L.length + 1) L [] [] false []
/-- A page as bytes. -/
def layG (g : Int) : List Nat := if g < 0 then ffL else S2.lowL g.toNat 8
def hdG (p : Pg) : List Nat := markL ++ [p.fl.toNat] ++ layG p.gr ++ S2.lowL p.se.toNat 4 ++ S2.lowL p.sq.toNat 4
def natL (l : List Int) : List Nat := l.map Int.toNat
def tlG (p : Pg) (b : List Nat) : List Nat := [p.la.length] ++ natL p.la ++ b
def layP (p : Pg) (b : List Nat) : List Nat := hdG p ++ S2.lowL (oggN (hdG p ++ zer4 ++ tlG p b)) 4 ++ tlG p b
abbrev numOk (p : Pg) : Prop := (0 ≤ p.fl ∧ p.fl ≤ 7) ∧ (-1 ≤ p.gr ∧ p.gr ≤ 9223372036854775807) ∧ (0 ≤ p.se ∧ p.se ≤ 4294967295) ∧ (0 ≤ p.sq ∧ p.sq ≤ 4294967295) ∧ p.la.length ≤ 255
abbrev lacOk (l : List Int) : Prop := ∀ x ∈ l, 0 ≤ x ∧ x ≤ 255
def sizL : List Nat → Nat → List Nat
  | [], _ => []
  | x :: t, n => if x = 255 then sizL t (n + 255) else (n + x) :: sizL t 0
def opnL : List Nat → Bool → Bool
  | [], o => o
  | x :: t, _ => opnL t (decide (x = 255))
def lacesL : List Pg → List Int
  | [] => []
  | p :: t => p.la ++ lacesL t
def layAll : List Pg → List Nat → List Nat
  | [], _ => []
  | p :: t, B => layP p (B.take (natL p.la).sum) ++ layAll t (B.drop (natL p.la).sum)

theorem seg_length (L : List Nat) (a b : Nat) (h : b ≤ L.length) : (seg L a b).length = b - a := by
  unfold seg
  rw [List.length_drop, List.length_take, Nat.min_eq_left h]
theorem seg_take (L : List Nat) (a b n : Nat) (h : b ≤ n) : seg (L.take n) a b = seg L a b := by
  unfold seg
  rw [List.take_take, Nat.min_eq_left h]
theorem seg_app (L M : List Nat) (a b : Nat) (h : b ≤ L.length) : seg (L ++ M) a b = seg L a b := by
  unfold seg
  rw [List.take_append_of_le_length h]
theorem seg_cat (L : List Nat) (a m b : Nat) (h1 : a ≤ m) (h2 : m ≤ b) : seg L a b = seg L a m ++ seg L m b := by
  unfold seg
  have e : (L.take b).take m = L.take m := by rw [List.take_take, Nat.min_eq_left h2]
  rw [← e]
  generalize L.take b = X
  by_cases h : m ≤ X.length
  · have := List.take_append_drop m X
    conv => lhs; rw [← this]
    rw [List.drop_append_of_le_length (by rw [List.length_take]; omega)]
  · rw [List.take_of_length_le (by omega), List.drop_of_length_le (i := m) (by omega), List.append_nil]
theorem seg_all (L : List Nat) (b : Nat) : seg L 0 b = L.take b := by unfold seg; rfl
theorem seg_of_split {L X Y Z : List Nat} (h : L = X ++ (Y ++ Z)) {a b : Nat} (ha : a = X.length) (hb : b = X.length + Y.length) : seg L a b = Y := by
  subst h ha hb
  unfold seg
  rw [List.take_append, List.take_of_length_le (by omega), List.drop_append_of_le_length (by omega), List.drop_of_length_le (by omega), List.nil_append, Nat.add_sub_cancel_left, List.take_append_of_le_length (by omega), List.take_of_length_le (by omega)]
theorem seg_one (L : List Nat) (i : Nat) (h : i < L.length) : seg L i (i + 1) = [u8 L i] := by
  unfold seg u8
  rw [List.getD_eq_getElem?_getD, List.getElem?_eq_getElem h, Option.getD_some, List.take_succ_eq_append_getElem h, List.drop_append_of_le_length (by rw [List.length_take]; omega), List.drop_of_length_le (by rw [List.length_take]; omega), List.nil_append]
theorem u8_of_split {L X Z : List Nat} {y : Nat} (h : L = X ++ ([y] ++ Z)) {a : Nat} (ha : a = X.length) : u8 L a = y := by
  subst h ha
  unfold u8
  rw [List.getD_eq_getElem?_getD, List.getElem?_append_right (Nat.le_refl _), Nat.sub_self]
  rfl
theorem seg_mem {L : List Nat} {a b x : Nat} (h : x ∈ seg L a b) : x ∈ L := List.mem_of_mem_take (List.mem_of_mem_drop h)
theorem le_low (n k : Nat) : leN (S2.lowL n k) = n % 256 ^ k := by
  unfold leN
  rw [← S2.lowL_reverse, List.reverse_reverse, S2.val_highL]
theorem low_succ (n k : Nat) : S2.lowL n (k + 1) = n % 256 :: S2.lowL (n / 256) k := by
  unfold S2.lowL
  rw [List.range_succ_eq_map, List.map_cons, List.map_map]
  congr 1
  · rw [Nat.pow_zero, Nat.div_one]
  · apply List.map_congr_left
    intro i _
    show n / 256 ^ (i + 1) % 256 = n / 256 / 256 ^ i % 256
    rw [Nat.pow_succ', Nat.div_div_eq_div_mul]
theorem le_cons (x : Nat) (l : List Nat) : leN (x :: l) = leN l * 256 + x := by
  unfold leN
  rw [List.reverse_cons, S2.val_snoc]
theorem low_le : ∀ (l : List Nat), (∀ b ∈ l, b < 256) → S2.lowL (leN l) l.length = l
  | [], _ => rfl
  | x :: t, h => by
    have hx : x < 256 := h x (by simp)
    rw [List.length_cons, low_succ, le_cons, show (leN t * 256 + x) % 256 = x by omega, show (leN t * 256 + x) / 256 = leN t by omega, low_le t (fun b hb => h b (List.mem_cons_of_mem _ hb))]
theorem le_lt (l : List Nat) (h : ∀ b ∈ l, b < 256) : leN l < 256 ^ l.length := by
  unfold leN
  rw [← List.length_reverse]
  exact S2.val_lt _ (fun b hb => h b (List.mem_reverse.1 hb))
theorem ogg_lt (L : List Nat) : oggN L < 4294967296 := (crcL p32 0#32 L).isLt

end Go.Proofs.YtjkamannjgcmiaaDoor

namespace Go.Proofs.YtjkamannjgcmiaaDoor
open Go.RowKit
set_option linter.unusedSimpArgs false
set_option linter.unusedVariables false
theorem layG_length (g : Int) : (layG g).length = 8 := by
  unfold layG
  split
  · rfl
  · rw [S2.lowL_length]
theorem hdG_length (p : Pg) : (hdG p).length = 22 := by
  unfold hdG
  simp only [List.length_append, layG_length, S2.lowL_length, List.length_cons, List.length_nil, markL]
theorem natL_length (l : List Int) : (natL l).length = l.length := by unfold natL; rw [List.length_map]
theorem tlG_length (p : Pg) (b : List Nat) : (tlG p b).length = 1 + p.la.length + b.length := by
  unfold tlG
  simp only [List.length_append, natL_length, List.length_cons, List.length_nil]
  try omega
theorem layP_length (p : Pg) (b : List Nat) : (layP p b).length = 27 + p.la.length + b.length := by
  unfold layP
  simp only [List.length_append, hdG_length, S2.lowL_length, tlG_length]
  omega
theorem fromBe_low (l : List Nat) (h8 : l.length = 8) : S2.fromBe l.reverse = if 9223372036854775808 ≤ leN l then -1 else (leN l : Int) := by
  unfold S2.fromBe leN
  by_cases h : 9223372036854775808 ≤ S2.val l.reverse
  · rw [if_pos (.inr h), if_pos h]
  · rw [if_neg (by rw [List.length_reverse]; omega), if_neg h]
theorem gr_lay (g : Int) (h1 : -1 ≤ g) (h2 : g ≤ 9223372036854775807) : S2.fromBe (layG g).reverse = g ∧ (0 ≤ g ∨ layG g = ffL) := by
  unfold layG
  by_cases h : g < 0
  · rw [if_pos h]
    refine ⟨?_, .inr rfl⟩
    have : S2.fromBe ffL.reverse = -1 := by decide
    omega
  · rw [if_neg h, fromBe_low _ (S2.lowL_length _ _), le_low]
    have e : g.toNat % 256 ^ 8 = g.toNat := Nat.mod_eq_of_lt (by have : (256 : Nat) ^ 8 = 18446744073709551616 := by decide
                                                                 omega)
    rw [e, if_neg (by omega)]
    exact ⟨by omega, .inl (by omega)⟩
theorem nat_int (l : List Int) (h : lacOk l) : (natL l).map (fun x : Nat => (x : Int)) = l := by
  induction l with
  | nil => rfl
  | cons a t ih =>
    have ha := h a (by simp)
    show ((a.toNat : Nat) : Int) :: (natL t).map _ = _
    rw [ih (fun x hx => h x (by simp [hx])), Int.toNat_of_nonneg ha.1]
theorem natL_lt (l : List Int) (h : lacOk l) : ∀ x ∈ natL l, x < 256 := by
  intro x hx
  obtain ⟨a, ha, rfl⟩ := List.mem_map.1 hx
  have := h a ha
  omega
/-- A page that was laid is read. -/
theorem lay_one (p : Pg) (b Z : List Nat) (hn : numOk p) (hl : lacOk p.la) (hb : b.length = (natL p.la).sum) : oneOk (layP p b ++ Z) ∧ endN (layP p b ++ Z) = (layP p b).length ∧ pgN (layP p b ++ Z) = p ∧ bdN (layP p b ++ Z) = b := by
  obtain ⟨⟨f0, f1⟩, ⟨g0, g1⟩, ⟨s0, s1⟩, ⟨q0, q1⟩, hc⟩ := hn
  have hlen := layP_length p b
  generalize hR : layP p b ++ Z = R
  have hRl : R.length = 27 + p.la.length + b.length + Z.length := by rw [← hR, List.length_append, hlen]
  generalize hs4 : S2.lowL (oggN (hdG p ++ zer4 ++ tlG p b)) 4 = s4
  have hs4l : s4.length = 4 := by rw [← hs4, S2.lowL_length]
  have e : R = markL ++ ([p.fl.toNat] ++ (layG p.gr ++ (S2.lowL p.se.toNat 4 ++ (S2.lowL p.sq.toNat 4 ++ (s4 ++ ([p.la.length] ++ (natL p.la ++ (b ++ Z)))))))) := by
    rw [← hR, ← hs4]
    unfold layP
    rw [show tlG p b = [p.la.length] ++ natL p.la ++ b from rfl]
    generalize S2.lowL (oggN _) 4 = q
    unfold hdG
    simp only [List.append_assoc]
  have n1 := layG_length p.gr
  have n2 := S2.lowL_length p.se.toNat 4
  have n3 := S2.lowL_length p.sq.toNat 4
  have n4 := natL_length p.la
  have m0 : seg R 0 5 = markL := seg_of_split (X := []) e rfl rfl
  have m5 : u8 R 5 = p.fl.toNat := u8_of_split e rfl
  have m6 : seg R 6 14 = layG p.gr := seg_of_split (X := markL ++ [p.fl.toNat]) (by rw [e]; simp only [List.append_assoc]; rfl) rfl (by rw [n1]; rfl)
  have m14 : seg R 14 18 = S2.lowL p.se.toNat 4 := seg_of_split (X := markL ++ [p.fl.toNat] ++ layG p.gr) (by rw [e]; simp only [List.append_assoc]; rfl) (by simp [n1, markL]) (by simp [n1, n2, markL])
  have m18 : seg R 18 22 = S2.lowL p.sq.toNat 4 := seg_of_split (X := markL ++ [p.fl.toNat] ++ layG p.gr ++ S2.lowL p.se.toNat 4) (by rw [e]; simp only [List.append_assoc]; rfl) (by simp [n1, n2, markL]) (by simp [n1, n2, n3, markL])
  have eh : R = hdG p ++ (s4 ++ ([p.la.length] ++ (natL p.la ++ (b ++ Z)))) := by rw [e]; unfold hdG; simp only [List.append_assoc]
  have nh := hdG_length p
  have m22 : seg R 22 26 = s4 := seg_of_split eh nh.symm (by rw [nh, hs4l])
  have m26 : u8 R 26 = p.la.length := u8_of_split (X := hdG p ++ s4) (by rw [eh]; simp only [List.append_assoc]; rfl) (by simp [nh, hs4l])
  have m27 : laN R = natL p.la := by
    unfold laN
    rw [m26]
    exact seg_of_split (X := hdG p ++ s4 ++ [p.la.length]) (by rw [eh]; simp only [List.append_assoc]; rfl) (by simp [nh, hs4l]) (by simp [nh, hs4l, n4])
  have mE : endN R = 27 + p.la.length + b.length := by unfold endN; rw [m26, m27, ← hb]
  have mB : bdN R = b := by
    unfold bdN
    rw [m26, mE]
    exact seg_of_split (X := hdG p ++ s4 ++ [p.la.length] ++ natL p.la) (by rw [eh]; simp only [List.append_assoc]; rfl) (by simp [nh, hs4l, n4]; omega) (by simp [nh, hs4l, n4]; omega)
  have m0h : seg R 0 22 = hdG p := seg_of_split (X := []) eh rfl (by rw [nh]; rfl)
  have mT : seg R 26 (endN R) = tlG p b := by
    rw [mE]
    exact seg_of_split (X := hdG p ++ s4) (Z := Z) (by rw [eh]; unfold tlG; simp only [List.append_assoc]) (by simp [nh, hs4l]) (by rw [tlG_length]; simp [nh, hs4l]; omega)
  have mG : grN R = p.gr ∧ (0 ≤ p.gr ∨ layG p.gr = ffL) := by
    have := gr_lay p.gr g0 g1
    exact ⟨by unfold grN; rw [m6]; exact this.1, this.2⟩
  refine ⟨⟨by omega, m0, by omega, by omega, by omega, ?_, ?_⟩, by rw [mE, hlen], ?_, mB⟩
  · unfold sumL
    rw [m0h, mT, m22, ← hs4, le_low]
    exact (Nat.mod_eq_of_lt (ogg_lt _)).symm
  · rw [mG.1, m6]
    exact mG.2
  · have es : (p.se.toNat % 256 ^ 4 : Nat) = p.se.toNat := Nat.mod_eq_of_lt (by have : (256 : Nat) ^ 4 = 4294967296 := by decide
                                                                                omega)
    have eq : (p.sq.toNat % 256 ^ 4 : Nat) = p.sq.toNat := Nat.mod_eq_of_lt (by have : (256 : Nat) ^ 4 = 4294967296 := by decide
                                                                                omega)
    unfold pgN
    rw [m5, m14, m18, mG.1, m27, nat_int _ hl, le_low, le_low, es, eq, Int.toNat_of_nonneg f0, Int.toNat_of_nonneg s0, Int.toNat_of_nonneg q0]
theorem int_nat (l : List Nat) : natL (l.map fun x : Nat => (x : Int)) = l := by
  unfold natL
  rw [List.map_map]
  conv => rhs; rw [← List.map_id l]
  apply List.map_congr_left
  intro x _
  show ((x : Int)).toNat = x
  omega
theorem fields_ok (R : List Nat) (h256 : ∀ b ∈ R, b < 256) (h : oneOk R) : numOk (pgN R) ∧ lacOk (pgN R).la ∧ (bdN R).length = (natL (pgN R).la).sum := by
  obtain ⟨h27, hm, h5, hla, hen, hsum, hg⟩ := h
  have hs : ∀ a b, b ≤ R.length → leN (seg R a b) < 256 ^ (b - a) := fun a b hab => by
    have := le_lt (seg R a b) (fun x hx => h256 x (seg_mem hx))
    rw [seg_length R a b hab] at this
    exact this
  have h14 := hs 14 18 (by omega)
  have h18 := hs 18 22 (by omega)
  have h4 : (256 : Nat) ^ 4 = 4294967296 := by decide
  have hu : u8 R 26 < 256 := by
    have : u8 R 26 ∈ R := by
      unfold u8
      rw [List.getD_eq_getElem?_getD, List.getElem?_eq_getElem (by omega)]
      exact List.getElem_mem _
    exact h256 _ this
  have hll : (laN R).length = u8 R 26 := by unfold laN; rw [seg_length R _ _ hla]; omega
  have h8 : (seg R 6 14).length = 8 := by rw [seg_length R 6 14 (by omega)]
  refine ⟨⟨⟨by show (0:Int) ≤ (u8 R 5 : Nat); omega, by show ((u8 R 5 : Nat) : Int) ≤ 7; omega⟩, ?_, ⟨by show (0:Int) ≤ (leN (seg R 14 18) : Nat); omega, by show ((leN (seg R 14 18) : Nat) : Int) ≤ _; have : leN (seg R 14 18) < 256 ^ 4 := h14; omega⟩, ⟨by show (0:Int) ≤ (leN (seg R 18 22) : Nat); omega, by show ((leN (seg R 18 22) : Nat) : Int) ≤ _; have : leN (seg R 18 22) < 256 ^ 4 := h18; omega⟩, ?_⟩, ?_, ?_⟩
  · show -1 ≤ grN R ∧ grN R ≤ _
    unfold grN
    rw [fromBe_low _ h8]
    split <;> omega
  · show ((laN R).map _).length ≤ 255
    rw [List.length_map]
    omega
  · intro x hx
    obtain ⟨y, hy, rfl⟩ := List.mem_map.1 hx
    have := h256 y (seg_mem hy)
    exact ⟨by omega, by omega⟩
  · show (bdN R).length = (natL ((laN R).map fun x : Nat => (x : Int))).sum
    rw [int_nat]
    unfold bdN
    rw [seg_length R _ _ hen]
    unfold endN
    omega
/-- A page that was read is laid. -/
theorem one_lay (R : List Nat) (h256 : ∀ b ∈ R, b < 256) (h : oneOk R) : layP (pgN R) (bdN R) = R.take (endN R) := by
  obtain ⟨h27, hm, h5, hla, hen, hsum, hg⟩ := h
  have hE : 27 + u8 R 26 ≤ endN R := by unfold endN; omega
  have h8 : (seg R 6 14).length = 8 := by rw [seg_length R 6 14 (by omega)]
  have low4 : ∀ a, a + 4 ≤ R.length → S2.lowL (leN (seg R a (a + 4))) 4 = seg R a (a + 4) := fun a ha => by
    have := low_le (seg R a (a + 4)) (fun x hx => h256 x (seg_mem hx))
    rw [seg_length R _ _ ha, Nat.add_sub_cancel_left] at this
    exact this
  have eg : layG (grN R) = seg R 6 14 := by
    unfold layG
    have := fromBe_low (seg R 6 14) h8
    unfold grN at hg ⊢
    rw [this] at hg ⊢
    by_cases hc : 9223372036854775808 ≤ leN (seg R 6 14)
    · rw [if_pos hc] at hg ⊢
      rw [if_pos (by omega)]
      rcases hg with hg | hg
      · omega
      · exact hg.symm
    · rw [if_neg hc, if_neg (by omega)]
      have := low_le (seg R 6 14) (fun x hx => h256 x (seg_mem hx))
      rw [h8] at this
      rw [Int.toNat_natCast]
      exact this
  have ehd : hdG (pgN R) = seg R 0 22 := by
    unfold hdG pgN
    simp only [Int.toNat_natCast]
    rw [eg, low4 14 (by omega), low4 18 (by omega), ← hm, ← seg_one R 5 (by omega), ← seg_cat R 0 5 6 (by omega) (by omega), ← seg_cat R 0 6 14 (by omega) (by omega), ← seg_cat R 0 14 18 (by omega) (by omega), ← seg_cat R 0 18 22 (by omega) (by omega)]
  have hll : (laN R).length = u8 R 26 := by unfold laN; rw [seg_length R _ _ hla]; omega
  have etl : tlG (pgN R) (bdN R) = seg R 26 (endN R) := by
    unfold tlG
    show [((laN R).map _).length] ++ natL ((laN R).map fun x : Nat => (x : Int)) ++ bdN R = _
    rw [int_nat, List.length_map, hll, ← seg_one R 26 (by omega)]
    unfold laN bdN
    rw [← seg_cat R 26 27 _ (by omega) (by omega), ← seg_cat R 26 _ _ (by omega) hE]
  unfold layP
  rw [ehd, etl]
  have : oggN (seg R 0 22 ++ zer4 ++ seg R 26 (endN R)) = leN (seg R 22 26) := hsum
  rw [this, low4 22 (by omega), ← seg_cat R 0 22 26 (by omega) (by omega), ← seg_cat R 0 26 _ (by omega) (by omega), seg_all]

end Go.Proofs.YtjkamannjgcmiaaDoor
