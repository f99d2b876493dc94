/- Own text: pages that were laid are read, pages that were read are laid. -/
import Derived.Test.YtjkamannjgcmiaaDoorG3x
namespace Go.Proofs.YtjkamannjgcmiaaDoor
open Go.RowKit
set_option linter.unusedSimpArgs false
set_option linter.unusedVariables false
theorem cut_app : ∀ (l1 B1 l2 B2 : List Nat) (K : List (List Nat)) (op : Bool) (hd : List Nat), B1.length = l1.sum → cutL (l1 ++ l2) (B1 ++ B2) K op hd = cutL l2 B2 (cutL l1 B1 K op hd).1 (cutL l1 B1 K op hd).2.1 (cutL l1 B1 K op hd).2.2
  | [], B1, l2, B2, K, op, hd, h => by
    rw [List.sum_nil] at h
    rw [List.length_eq_zero_iff.1 h]
    rfl
  | x :: t, B1, l2, B2, K, op, hd, h => by
    rw [List.sum_cons] at h
    have e1 : (B1 ++ B2).take x = B1.take x := List.take_append_of_le_length (by omega)
    have e2 : (B1 ++ B2).drop x = B1.drop x ++ B2 := List.drop_append_of_le_length (by omega)
    have hl : (B1.drop x).length = t.sum := by rw [List.length_drop]; omega
    rw [List.cons_append, cutL, cutL, e1, e2]
    by_cases hx : x = 255
    · rw [if_pos hx, if_pos hx]
      exact cut_app t _ l2 B2 K true _ hl
    · rw [if_neg hx, if_neg hx]
      exact cut_app t _ l2 B2 _ false [] hl
theorem cut_open : ∀ (la B : List Nat) (K : List (List Nat)) (op : Bool) (hd : List Nat), (cutL la B K op hd).2.1 = opnL la op
  | [], B, K, op, hd => rfl
  | x :: t, B, K, op, hd => by
    rw [cutL, opnL]
    by_cases hx : x = 255
    · rw [if_pos hx, cut_open t, decide_eq_true hx]
    · rw [if_neg hx, cut_open t, decide_eq_false hx]
/-- What is cut: packets that together are the bytes. -/
theorem cut_pk : ∀ (la B : List Nat) (K : List (List Nat)) (op : Bool) (hd : List Nat), B.length = la.sum → (op = false → hd = []) → opnL la op = false → ∃ pk : List (List Nat), cutL la B K op hd = (K ++ pk, false, []) ∧ pk.flatten = hd ++ B ∧ pk.map List.length = sizL la hd.length
  | [], B, K, op, hd, h, ho, hf => by
    rw [List.sum_nil] at h
    have hop : op = false := hf
    refine ⟨[], ?_, ?_, rfl⟩
    · rw [cutL, hop, ho hop, List.append_nil]
    · rw [ho hop, List.length_eq_zero_iff.1 h]; rfl
  | x :: t, B, K, op, hd, h, ho, hf => by
    rw [List.sum_cons] at h
    have hl : (B.drop x).length = t.sum := by rw [List.length_drop]; omega
    have ht : (B.take x).length = x := by rw [List.length_take]; omega
    rw [opnL] at hf
    rw [cutL, sizL]
    by_cases hx : x = 255
    · rw [decide_eq_true hx] at hf
      rw [if_pos hx, if_pos hx]
      obtain ⟨pk, e1, e2, e3⟩ := cut_pk t (B.drop x) K true (hd ++ B.take x) hl (fun q => by cases q) hf
      refine ⟨pk, e1, ?_, ?_⟩
      · rw [e2, List.append_assoc, List.take_append_drop]
      · rw [e3, List.length_append, ht, hx]
    · rw [decide_eq_false hx] at hf
      rw [if_neg hx, if_neg hx]
      obtain ⟨pk, e1, e2, e3⟩ := cut_pk t (B.drop x) (K ++ [hd ++ B.take x]) false [] hl (fun _ => rfl) hf
      refine ⟨(hd ++ B.take x) :: pk, ?_, ?_, ?_⟩
      · rw [e1, List.append_assoc]; rfl
      · rw [List.flatten_cons, e2, List.nil_append, List.append_assoc, List.take_append_drop]
      · rw [List.map_cons, e3, List.length_append, ht]; rfl
theorem flat_inj : ∀ (a b : List (List Nat)), a.map List.length = b.map List.length → a.flatten = b.flatten → a = b
  | [], [], _, _ => rfl
  | [], _ :: _, h, _ => by cases h
  | _ :: _, [], h, _ => by cases h
  | x :: s, y :: t, h, hf => by
    rw [List.map_cons, List.map_cons] at h
    injection h with h1 h2
    rw [List.flatten_cons, List.flatten_cons] at hf
    obtain ⟨e1, e2⟩ := List.append_inj hf h1
    rw [e1, flat_inj s t h2 e2]
theorem natL_app (a b : List Int) : natL (a ++ b) = natL a ++ natL b := by unfold natL; rw [List.map_append]
theorem laN_of (R : List Nat) (p : Pg) (h : pgN R = p) : laN R = natL p.la := by
  subst h
  exact (int_nat (laN R)).symm
theorem prs_zero {f : Nat} {R : List Nat} {P : List Pg} {K : List (List Nat)} {op : Bool} {hd : List Nat} (h0 : ¬ R.length = 0) (h : (prs (f + 1) R P K op hd).1 = 0) : pgE R P op = 0 ∧ prs (f + 1) R P K op hd = prs f (R.drop (endN R)) (P ++ [pgN R]) (cutL (laN R) (bdN R) K op hd).1 (cutL (laN R) (bdN R) K op hd).2.1 (cutL (laN R) (bdN R) K op hd).2.2 := by
  rw [prs, if_neg h0] at h ⊢
  by_cases e : pgE R P op = 0
  · rw [if_pos e]
    exact ⟨e, rfl⟩
  · rw [if_neg e] at h
    exact absurd h e
theorem pgE_zero {R : List Nat} {P : List Pg} {op : Bool} (h : pgE R P op = 0) : oneOk R ∧ ¬ P.length = 65536 ∧ serOk R P ∧ ordOk R P op := by
  unfold pgE at h
  split at h
  · cases h
  · rename_i h1
    split at h
    · cases h
    · rename_i h2
      split at h
      · cases h
      · rename_i h3
        split at h
        · cases h
        · rename_i h4
          exact ⟨Decidable.not_not.1 h1, h2, Decidable.not_not.1 h3, Decidable.not_not.1 h4⟩
/-- Pages that were laid are read, where no order speaks against them. -/
theorem prs_lay : ∀ (t : List Pg) (f : Nat) (P : List Pg) (K : List (List Nat)) (op : Bool) (hd B : List Nat), (∀ p ∈ t, numOk p ∧ lacOk p.la) → B.length = (natL (lacesL t)).sum → (layAll t B).length < f → (prs f (layAll t B) P K op hd).1 = 0 → prs f (layAll t B) P K op hd = (0, P ++ t, (cutL (natL (lacesL t)) B K op hd).1) ∧ opnL (natL (lacesL t)) op = false
  | [], 0, P, K, op, hd, B, _, _, hf, _ => absurd hf (by omega)
  | [], f + 1, P, K, op, hd, B, _, _, _, h => by
    have e : prs (f + 1) (layAll [] B) P K op hd = finP P K op := by rw [prs, if_pos (show (layAll [] B).length = 0 from rfl)]
    rw [e] at h ⊢
    unfold finP at h ⊢
    by_cases hc : lasB P = true ∧ op = false
    · rw [if_pos hc, List.append_nil]
      exact ⟨rfl, hc.2⟩
    · rw [if_neg hc] at h
      cases h
  | p :: t, 0, P, K, op, hd, B, _, _, hf, _ => absurd hf (by omega)
  | p :: t, f + 1, P, K, op, hd, B, hn, hB, hf, h => by
    have hp := hn p (by simp)
    have hB' : B.length = (natL p.la).sum + (natL (lacesL t)).sum := by
      rw [hB]
      show (natL (p.la ++ lacesL t)).sum = _
      rw [natL_app, List.sum_append]
    have hbl : (B.take (natL p.la).sum).length = (natL p.la).sum := by rw [List.length_take]; omega
    obtain ⟨q1, q2, q3, q4⟩ := lay_one p (B.take (natL p.la).sum) (layAll t (B.drop (natL p.la).sum)) hp.1 hp.2 hbl
    have eR : layAll (p :: t) B = layP p (B.take (natL p.la).sum) ++ layAll t (B.drop (natL p.la).sum) := rfl
    rw [← eR] at q1 q2 q3 q4
    have hpl := layP_length p (B.take (natL p.la).sum)
    have hlen : (layAll (p :: t) B).length = (layP p (B.take (natL p.la).sum)).length + (layAll t (B.drop (natL p.la).sum)).length := by rw [eR, List.length_append]
    have h0 : ¬ (layAll (p :: t) B).length = 0 := by omega
    obtain ⟨e0, e1⟩ := prs_zero h0 h
    have ed : (layAll (p :: t) B).drop (endN (layAll (p :: t) B)) = layAll t (B.drop (natL p.la).sum) := by
      rw [q2, eR, List.drop_append_of_le_length (Nat.le_refl _), List.drop_of_length_le (Nat.le_refl _), List.nil_append]
    have el := laN_of _ p q3
    rw [ed, q3, el, q4] at e1
    rw [e1] at h ⊢
    obtain ⟨g1, g2⟩ := prs_lay t f _ _ _ _ (B.drop (natL p.la).sum) (fun x hx => hn x (by simp [hx])) (by rw [List.length_drop]; omega) (by omega) h
    have ec := cut_app (natL p.la) (B.take (natL p.la).sum) (natL (lacesL t)) (B.drop (natL p.la).sum) K op hd hbl
    rw [List.take_append_drop, ← natL_app] at ec
    refine ⟨?_, ?_⟩
    · rw [g1]
      show _ = (0, P ++ (p :: t), (cutL (natL (p.la ++ lacesL t)) B K op hd).1)
      rw [ec, List.append_assoc]
      rfl
    · rw [cut_open] at g2
      show opnL (natL (p.la ++ lacesL t)) op = false
      rw [← cut_open _ B K op hd, ec, cut_open, cut_open]
      exact g2
/-- Pages that are read were laid. -/
theorem prs_inv : ∀ (f : Nat) (R : List Nat) (P : List Pg) (K : List (List Nat)) (op : Bool) (hd : List Nat), (∀ b ∈ R, b < 256) → (prs f R P K op hd).1 = 0 → ∃ (t : List Pg) (B : List Nat), R = layAll t B ∧ B.length = (natL (lacesL t)).sum ∧ (∀ p ∈ t, numOk p ∧ lacOk p.la) ∧ (∀ b ∈ B, b < 256)
  | 0, R, P, K, op, hd, _, h => by cases h
  | f + 1, R, P, K, op, hd, h256, h => by
    by_cases h0 : R.length = 0
    · refine ⟨[], [], ?_, rfl, fun p hp => by simp at hp, fun b hb => by simp at hb⟩
      exact List.length_eq_zero_iff.1 h0
    · obtain ⟨e0, e1⟩ := prs_zero h0 h
      have hone := (pgE_zero e0).1
      rw [e1] at h
      obtain ⟨t, B, g1, g2, g3, g4⟩ := prs_inv f _ _ _ _ _ (fun b hb => h256 b (List.mem_of_mem_drop hb)) h
      obtain ⟨k1, k2, k3⟩ := fields_ok R h256 hone
      have e2 := one_lay R h256 hone
      refine ⟨pgN R :: t, bdN R ++ B, ?_, ?_, ?_, ?_⟩
      · show R = layP (pgN R) ((bdN R ++ B).take (natL (pgN R).la).sum) ++ layAll t ((bdN R ++ B).drop (natL (pgN R).la).sum)
        rw [← k3, List.take_append_of_le_length (Nat.le_refl _), List.take_of_length_le (Nat.le_refl _), List.drop_append_of_le_length (Nat.le_refl _), List.drop_of_length_le (Nat.le_refl _), List.nil_append, e2, ← g1, List.take_append_drop]
      · show _ = (natL ((pgN R).la ++ lacesL t)).sum
        rw [natL_app, List.sum_append, List.length_append, k3, g2]
      · intro p hp
        rcases List.mem_cons.1 hp with rfl | hp
        · exact ⟨k1, k2⟩
        · exact g3 p hp
      · intro b hb
        rcases List.mem_append.1 hb with hb | hb
        · exact h256 b (seg_mem hb)
        · exact g4 b hb
abbrev fitOk (l : List Pg) (pk : List (List Nat)) : Prop := lacOk (lacesL l) ∧ opnL (natL (lacesL l)) false = false ∧ sizL (natL (lacesL l)) 0 = pk.map List.length
/-- Pages with packets as bytes. -/
def bldP (l : List Pg) (pk : List (List Nat)) : Int × List Nat := if fitOk l pk ∧ (∀ p ∈ l, numOk p) ∧ (prsP (layAll l pk.flatten)).1 = 0 then (0, layAll l pk.flatten) else (60, [])
theorem siz_sum : ∀ (la : List Nat) (n : Nat), opnL la (decide (0 < n)) = false → (sizL la n).sum = n + la.sum
  | [], n, h => by
    have : ¬ 0 < n := of_decide_eq_false h
    show 0 = n + 0
    omega
  | x :: t, n, h => by
    rw [opnL] at h
    rw [sizL, List.sum_cons]
    by_cases hx : x = 255
    · rw [if_pos hx, siz_sum t (n + 255) (by rw [decide_eq_true hx] at h; rw [decide_eq_true (by omega)]; exact h)]
      omega
    · rw [if_neg hx, List.sum_cons, siz_sum t 0 (by rw [decide_eq_false hx] at h; exact h)]
      omega
theorem flat_len (pk : List (List Nat)) : pk.flatten.length = (pk.map List.length).sum := by rw [List.length_flatten]
theorem lac_mem {l : List Pg} (h : lacOk (lacesL l)) : ∀ p ∈ l, lacOk p.la := by
  induction l with
  | nil => intro p hp; simp at hp
  | cons q t ih =>
    intro p hp x hx
    rcases List.mem_cons.1 hp with rfl | hp
    · exact h x (List.mem_append_left _ hx)
    · exact ih (fun y hy => h y (List.mem_append_right _ hy)) p hp x hx
theorem lac_all {l : List Pg} (h : ∀ p ∈ l, lacOk p.la) : lacOk (lacesL l) := by
  induction l with
  | nil => intro x hx; simp [lacesL] at hx
  | cons q t ih =>
    intro x hx
    rcases List.mem_append.1 hx with hx | hx
    · exact h q (by simp) x hx
    · exact ih (fun y hy => h y (by simp [hy])) x hx
/-- What was built is read. -/
theorem bld_read (l : List Pg) (pk : List (List Nat)) (t : List Nat) (h : bldP l pk = (0, t)) : t = layAll l pk.flatten ∧ prsP t = (0, l, pk) := by
  unfold bldP at h
  by_cases hc : fitOk l pk ∧ (∀ p ∈ l, numOk p) ∧ (prsP (layAll l pk.flatten)).1 = 0
  · rw [if_pos hc] at h
    obtain ⟨⟨h1, h2, h3⟩, h4, h5⟩ := hc
    injection h with _ ht
    subst ht
    refine ⟨rfl, ?_⟩
    have hB : pk.flatten.length = (natL (lacesL l)).sum := by
      have := siz_sum (natL (lacesL l)) 0 h2
      rw [flat_len, ← h3, this, Nat.zero_add]
    unfold prsP at h5 ⊢
    by_cases h0 : (layAll l pk.flatten).length = 0
    · rw [if_pos h0] at h5
      cases h5
    · rw [if_neg h0] at h5 ⊢
      obtain ⟨g1, g2⟩ := prs_lay l _ [] [] false [] pk.flatten (fun p hp => ⟨h4 p hp, lac_mem h1 p hp⟩) hB (by omega) h5
      obtain ⟨pk2, c1, c2, c3⟩ := cut_pk (natL (lacesL l)) pk.flatten [] false [] hB (fun _ => rfl) h2
      rw [g1, c1, List.nil_append, List.nil_append]
      have : pk2 = pk := flat_inj pk2 pk (by rw [c3]; exact h3) (by rw [c2, List.nil_append])
      rw [this]
  · rw [if_neg hc] at h
    injection h with h _
    cases h
/-- What was read is built. -/
theorem read_bld (s : List Nat) (h256 : ∀ b ∈ s, b < 256) (l : List Pg) (pk : List (List Nat)) (h : prsP s = (0, l, pk)) : bldP l pk = (0, s) ∧ s = layAll l pk.flatten := by
  have hs : s.length ≠ 0 := fun e => by unfold prsP at h; rw [if_pos e] at h; injection h with h _; cases h
  have h' := h
  unfold prsP at h
  rw [if_neg hs] at h
  have h1 : (prs (s.length + 1) s [] [] false []).1 = 0 := by rw [h]
  obtain ⟨t, B, e1, e2, e3, e4⟩ := prs_inv _ _ _ _ _ _ h256 h1
  have g := prs_lay t (s.length + 1) [] [] false [] B e3 e2 (by rw [← e1]; omega) (by rw [← e1]; exact h1)
  rw [← e1, h, List.nil_append] at g
  obtain ⟨g1, g2⟩ := g
  injection g1 with _ g1
  injection g1 with g3 g4
  obtain ⟨pk2, c1, c2, c3⟩ := cut_pk (natL (lacesL t)) B [] false [] e2 (fun _ => rfl) g2
  rw [c1, List.nil_append] at g4
  have g4 : pk = pk2 := g4
  subst g3 g4
  rw [List.nil_append] at c2
  have es : s = layAll l pk.flatten := by rw [c2]; exact e1
  refine ⟨?_, es⟩
  unfold bldP
  rw [if_pos ⟨⟨lac_all fun p hp => (e3 p hp).2, g2, c3.symm⟩, fun p hp => (e3 p hp).1, by rw [← es, h']⟩, ← es]

end Go.Proofs.YtjkamannjgcmiaaDoor
