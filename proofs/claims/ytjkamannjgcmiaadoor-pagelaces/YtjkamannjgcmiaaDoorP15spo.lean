/- Own text: pages of which one byte is another one. -/
import Derived.Test.YtjkamannjgcmiaaDoorP15back
namespace Go.Proofs.YtjkamannjgcmiaaDoor
open Go.RowKit
set_option linter.unusedSimpArgs false
set_option linter.unusedVariables false
theorem low_inj (a b : Nat) (ha : a < 4294967296) (hb : b < 4294967296) (h : S2.lowL a 4 = S2.lowL b 4) : a = b := by
  have := congrArg leN h
  rw [le_low, le_low] at this
  have h4 : (256 : Nat) ^ 4 = 4294967296 := by decide
  rw [h4, Nat.mod_eq_of_lt ha, Nat.mod_eq_of_lt hb] at this
  exact this
theorem ogg_spoilt (X Y : List Nat) (b c : Nat) (hb : b < 256) (hc : c < 256) (h : b ≠ c) : oggN (X ++ b :: Y) ≠ oggN (X ++ c :: Y) := by
  intro e
  exact crcL_spoilt p32 odd32 told32 0#32 X Y b c hb hc h (BitVec.eq_of_toNat_eq e)
theorem set_split (L : List Nat) (k c : Nat) (hk : k < L.length) : L.set k c = L.take k ++ c :: L.drop (k + 1) ∧ L = L.take k ++ L.getD k 0 :: L.drop (k + 1) := by
  have hx : L.getD k 0 = L[k] := by rw [List.getD_eq_getElem?_getD, List.getElem?_eq_getElem hk]; rfl
  exact ⟨by rw [List.set_eq_take_append_cons_drop, if_pos hk], by rw [hx, ← List.drop_eq_getElem_cons hk, List.take_append_drop]⟩
/-- A text with its sum within: with one byte that is another one it is no text with its sum within. -/
theorem sum_spoilt (X Y X' Y' : List Nat) (hX : ∀ b ∈ X, b < 256) (hY : ∀ b ∈ Y, b < 256) (h1 : X.length = X'.length) (h2 : Y.length = Y'.length) (k c : Nat) (hk : k < X.length + 4 + Y.length) (hc : c < 256) (hne : c ≠ (X ++ S2.lowL (oggN (X ++ zer4 ++ Y)) 4 ++ Y).getD k 0) (h : (X ++ S2.lowL (oggN (X ++ zer4 ++ Y)) 4 ++ Y).set k c = X' ++ S2.lowL (oggN (X' ++ zer4 ++ Y')) 4 ++ Y') : False := by
  have l4 : ∀ n, (S2.lowL n 4).length = 4 := fun n => S2.lowL_length n 4
  rw [List.append_assoc] at h hne
  rw [List.append_assoc X'] at h
  by_cases k1 : k < X.length
  · rw [List.set_append_left _ _ k1] at h
    obtain ⟨e1, e2⟩ := List.append_inj h (by rw [List.length_set]; exact h1)
    obtain ⟨e3, e4⟩ := List.append_inj e2 (by rw [l4, l4])
    have e5 := low_inj _ _ (ogg_lt _) (ogg_lt _) e3
    rw [List.getD_eq_getElem?_getD, List.getElem?_append_left k1, ← List.getD_eq_getElem?_getD] at hne
    obtain ⟨s1, s2⟩ := set_split X k c k1
    have hb : X.getD k 0 < 256 := by
      rw [List.getD_eq_getElem?_getD, List.getElem?_eq_getElem k1]
      exact hX _ (List.getElem_mem k1)
    have := ogg_spoilt (X.take k) (X.drop (k + 1) ++ zer4 ++ Y) (X.getD k 0) c hb hc (fun e => hne e.symm)
    apply this
    have a1 : X.take k ++ X.getD k 0 :: (X.drop (k + 1) ++ zer4 ++ Y) = X ++ zer4 ++ Y := by
      conv => rhs; rw [s2]
      simp only [List.append_assoc, List.cons_append]
    have a2 : X.take k ++ c :: (X.drop (k + 1) ++ zer4 ++ Y) = X' ++ zer4 ++ Y' := by
      rw [← e1, ← e4, s1]
      simp only [List.append_assoc, List.cons_append]
    rw [a1, a2]
    exact e5
  · rw [List.set_append_right _ _ (by omega)] at h
    obtain ⟨e1, e2⟩ := List.append_inj h h1
    rw [List.getD_eq_getElem?_getD, List.getElem?_append_right (by omega), ← List.getD_eq_getElem?_getD] at hne
    by_cases k2 : k - X.length < 4
    · rw [List.set_append_left _ _ (by rw [l4]; exact k2)] at e2
      obtain ⟨e3, e4⟩ := List.append_inj e2 (by rw [List.length_set, l4, l4])
      rw [← e1, ← e4] at e3
      rw [List.getD_eq_getElem?_getD, List.getElem?_append_left (by rw [l4]; exact k2), ← List.getD_eq_getElem?_getD] at hne
      apply hne
      have := congrArg (fun l => l.getD (k - X.length) 0) e3
      rw [← this, List.getD_eq_getElem?_getD, List.getElem?_set, if_pos rfl, if_pos (by rw [l4]; exact k2)]
      rfl
    · rw [List.set_append_right _ _ (by rw [l4]; omega), l4] at e2
      obtain ⟨e3, e4⟩ := List.append_inj e2 (by rw [l4, l4])
      have e5 := low_inj _ _ (ogg_lt _) (ogg_lt _) e3
      rw [List.getD_eq_getElem?_getD, List.getElem?_append_right (by rw [l4]; omega), l4, ← List.getD_eq_getElem?_getD] at hne
      generalize hj : k - X.length - 4 = j at e4 hne
      have k1 : j < Y.length := by omega
      obtain ⟨s1, s2⟩ := set_split Y j c k1
      have hb : Y.getD j 0 < 256 := by
        rw [List.getD_eq_getElem?_getD, List.getElem?_eq_getElem k1]
        exact hY _ (List.getElem_mem k1)
      have := ogg_spoilt (X ++ zer4 ++ Y.take j) (Y.drop (j + 1)) (Y.getD j 0) c hb hc (fun e => hne e.symm)
      apply this
      have a1 : X ++ zer4 ++ Y.take j ++ Y.getD j 0 :: Y.drop (j + 1) = X ++ zer4 ++ Y := by
        conv => rhs; rw [s2]
        simp only [List.append_assoc, List.cons_append]
      have a2 : X ++ zer4 ++ Y.take j ++ c :: Y.drop (j + 1) = X' ++ zer4 ++ Y' := by
        rw [← e1, ← e4, s1]
        simp only [List.append_assoc, List.cons_append]
      rw [a1, a2]
      exact e5
theorem ff_lt : ∀ b ∈ ffL, b < 256 := by decide
theorem mark_lt : ∀ b ∈ markL, b < 256 := by decide
theorem hdG_lt (p : Pg) (h : numOk p) : ∀ b ∈ hdG p, b < 256 := by
  intro b hb
  unfold hdG at hb
  rcases List.mem_append.1 hb with hb | hb
  · rcases List.mem_append.1 hb with hb | hb
    · rcases List.mem_append.1 hb with hb | hb
      · rcases List.mem_append.1 hb with hb | hb
        · exact mark_lt b hb
        · rw [List.mem_singleton] at hb
          have := h.1
          omega
      · unfold layG at hb
        split at hb
        · exact ff_lt b hb
        · exact S2.lowL_lt _ _ b hb
    · exact S2.lowL_lt _ _ b hb
  · exact S2.lowL_lt _ _ b hb
theorem tlG_lt (p : Pg) (B : List Nat) (h : numOk p) (hl : lacOk p.la) (hB : ∀ b ∈ B, b < 256) : ∀ b ∈ tlG p B, b < 256 := by
  intro b hb
  unfold tlG at hb
  rcases List.mem_append.1 hb with hb | hb
  · rcases List.mem_append.1 hb with hb | hb
    · rw [List.mem_singleton] at hb
      have := h.2.2.2.2
      omega
    · exact natL_lt _ hl b hb
  · exact hB b hb
/-- One byte of pages that were laid is another one: they are no pages with these laces. -/
theorem lay_spoilt : ∀ (t u : List Pg) (B C : List Nat) (k c : Nat), (∀ p ∈ t, numOk p ∧ lacOk p.la) → (∀ b ∈ B, b < 256) → t.map Pg.la = u.map Pg.la → B.length = (natL (lacesL t)).sum → C.length = (natL (lacesL u)).sum → k < (layAll t B).length → c < 256 → c ≠ (layAll t B).getD k 0 → (layAll t B).set k c = layAll u C → False
  | [], u, B, C, k, c, _, _, _, _, _, hk, _, _, _ => by simp [layAll] at hk
  | p :: t, [], B, C, k, c, _, _, hm, _, _, _, _, _, _ => by cases hm
  | p :: t, q :: u, B, C, k, c, hn, h256, hm, hB, hC, hk, hc, hne, h => by
    rw [List.map_cons, List.map_cons] at hm
    injection hm with hla hm
    have hB' : B.length = (natL p.la).sum + (natL (lacesL t)).sum := by
      rw [hB]
      show (natL (p.la ++ lacesL t)).sum = _
      rw [natL_app, List.sum_append]
    have hC' : C.length = (natL q.la).sum + (natL (lacesL u)).sum := by
      rw [hC]
      show (natL (q.la ++ lacesL u)).sum = _
      rw [natL_app, List.sum_append]
    have hp := hn p (by simp)
    have lB : (B.take (natL p.la).sum).length = (natL p.la).sum := by rw [List.length_take]; omega
    have lC : (C.take (natL q.la).sum).length = (natL q.la).sum := by rw [List.length_take]; omega
    have eL : (natL p.la).sum = (natL q.la).sum := by rw [hla]
    have n1 := layP_length p (B.take (natL p.la).sum)
    have n2 := layP_length q (C.take (natL q.la).sum)
    have eN : p.la.length = q.la.length := by rw [hla]
    have hlen : (layP p (B.take (natL p.la).sum)).length = (layP q (C.take (natL q.la).sum)).length := by omega
    have e1 : layAll (p :: t) B = layP p (B.take (natL p.la).sum) ++ layAll t (B.drop (natL p.la).sum) := rfl
    have e2 : layAll (q :: u) C = layP q (C.take (natL q.la).sum) ++ layAll u (C.drop (natL q.la).sum) := rfl
    rw [e1] at hk hne h
    rw [e2] at h
    rw [List.length_append] at hk
    by_cases k1 : k < (layP p (B.take (natL p.la).sum)).length
    · rw [List.set_append_left _ _ k1] at h
      obtain ⟨g1, g2⟩ := List.append_inj h (by rw [List.length_set]; exact hlen)
      rw [List.getD_eq_getElem?_getD, List.getElem?_append_left k1, ← List.getD_eq_getElem?_getD] at hne
      refine sum_spoilt (hdG p) (tlG p (B.take (natL p.la).sum)) (hdG q) (tlG q (C.take (natL q.la).sum)) (hdG_lt p hp.1) (tlG_lt p _ hp.1 hp.2 fun b hb => h256 b (List.mem_of_mem_take hb)) (by rw [hdG_length, hdG_length]) (by rw [tlG_length, tlG_length]; omega) k c ?_ hc hne g1
      rw [hdG_length, tlG_length]
      omega
    · rw [List.set_append_right _ _ (by omega)] at h
      obtain ⟨g1, g2⟩ := List.append_inj h hlen
      rw [List.getD_eq_getElem?_getD, List.getElem?_append_right (by omega), ← List.getD_eq_getElem?_getD] at hne
      exact lay_spoilt t u (B.drop (natL p.la).sum) (C.drop (natL q.la).sum) _ c (fun x hx => hn x (by simp [hx])) (fun b hb => h256 b (List.mem_of_mem_drop hb)) hm (by rw [List.length_drop]; omega) (by rw [List.length_drop]; omega) (by omega) hc hne g2
theorem flat_lt {pk : List (List Nat)} (h : ∀ q ∈ pk, ∀ b ∈ q, b < 256) : ∀ b ∈ pk.flatten, b < 256 := by
  intro b hb
  obtain ⟨q, hq, hb⟩ := List.mem_flatten.1 hb
  exact h q hq b hb
/-- What was built, with one byte that is another one, is no text of pages with these laces. -/
theorem bld_spoilt (l : List Pg) (pk : List (List Nat)) (s : List Nat) (hpk : ∀ q ∈ pk, ∀ b ∈ q, b < 256) (h : bldP l pk = (0, s)) (k c : Nat) (hk : k < s.length) (hc : c < 256) (hne : c ≠ s.getD k 0) (h256 : ∀ b ∈ s.set k c, b < 256) (m : List Pg) (q : List (List Nat)) (hm : prsP (s.set k c) = (0, m, q)) (hla : l.map Pg.la = m.map Pg.la) : False := by
  obtain ⟨e1, e2⟩ := bld_read l pk s h
  obtain ⟨g1, g2⟩ := read_bld _ h256 m q hm
  unfold bldP at h g1
  by_cases hc1 : fitOk l pk ∧ (∀ p ∈ l, numOk p) ∧ (prsP (layAll l pk.flatten)).1 = 0
  · by_cases hc2 : fitOk m q ∧ (∀ p ∈ m, numOk p) ∧ (prsP (layAll m q.flatten)).1 = 0
    · obtain ⟨⟨a1, a2, a3⟩, a4, a5⟩ := hc1
      obtain ⟨⟨b1, b2, b3⟩, b4, b5⟩ := hc2
      have f1 : pk.flatten.length = (natL (lacesL l)).sum := by
        have := siz_sum (natL (lacesL l)) 0 a2
        rw [flat_len, ← a3, this, Nat.zero_add]
      have f2 : q.flatten.length = (natL (lacesL m)).sum := by
        have := siz_sum (natL (lacesL m)) 0 b2
        rw [flat_len, ← b3, this, Nat.zero_add]
      subst e1
      exact lay_spoilt l m pk.flatten q.flatten k c (fun p hp => ⟨a4 p hp, lac_mem a1 p hp⟩) (flat_lt hpk) hla f1 f2 hk hc hne g2
    · rw [if_neg hc2] at g1
      injection g1 with g1 _
      cases g1
  · rw [if_neg hc1] at h
    injection h with h _
    cases h

end Go.Proofs.YtjkamannjgcmiaaDoor
