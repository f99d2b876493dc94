/- Own text: reading and laying plainly are collecting. -/
import Derived.Test.YtjkamannjgcmiaaDoorQ15tx
import Derived.Test.YtjkamannjgcmiaaDoorG36x
import Derived.Test.YtjkamannjgcmiaaDoorP15back
import Derived.Test.YtjkamannjgcmiaaDoorR15bld
namespace Go.Proofs.YtjkamannjgcmiaaDoor
open Go.RowKit
set_option linter.unusedSimpArgs false
set_option linter.unusedVariables false

theorem gr_two (R : List Nat) (h256 : ∀ b ∈ R, b < 256) (h : 27 ≤ R.length) : ((0 ≤ grN R ∨ seg R 6 14 = ffL) ↔ -1 ≤ sgI (leN (seg R 6 14))) ∧ (-1 ≤ sgI (leN (seg R 6 14)) → grN R = sgI (leN (seg R 6 14))) := by
  have hl : (seg R 6 14).length = 8 := seg_length _ _ _ (by omega)
  have hb : ∀ b ∈ seg R 6 14, b < 256 := fun b hb => h256 b (seg_mem hb)
  have hlt := le_lt _ hb
  have hlow := low_le _ hb
  rw [hl] at hlt hlow
  have hg : grN R = S2.fromBe (seg R 6 14).reverse := rfl
  have hv : S2.val (seg R 6 14).reverse = leN (seg R 6 14) := rfl
  have hff : leN ffL = 18446744073709551615 := by decide +kernel
  have hfl : S2.lowL 18446744073709551615 8 = ffL := by decide +kernel
  rw [hg]
  unfold S2.fromBe
  rw [hv, List.length_reverse, hl]
  generalize seg R 6 14 = g at *
  have e : g = ffL ↔ leN g = 18446744073709551615 := by
    constructor
    · rintro rfl; exact hff
    · intro q; rw [q, hfl] at hlow; exact hlow.symm
  rw [e]
  generalize leN g = n at *
  unfold sgI
  by_cases h1 : n < 9223372036854775808
  · rw [if_neg (by omega), if_pos h1]
    omega
  · rw [if_pos (by omega), if_neg h1]
    omega
theorem one_read (R : List Nat) (h256 : ∀ b ∈ R, b < 256) : (oneOk R ↔ rdOk R ∧ mayOk (rdG R)) ∧ (rdOk R → mayOk (rdG R) → pgN R = rdG R) := by
  by_cases h27 : 27 ≤ R.length
  · obtain ⟨hg1, hg2⟩ := gr_two R h256 h27
    have hse := le_lt (seg R 14 18) (fun b hb => h256 b (seg_mem hb))
    rw [seg_length _ _ _ (by omega)] at hse
    have hse2 : leN (seg R 14 18) < 4294967296 := hse
    have h26 : u8 R 26 < 256 := h256 _ (by unfold u8; rw [List.getD_eq_getElem?_getD, List.getElem?_eq_getElem (by omega)]; exact List.getElem_mem _)
    refine ⟨⟨fun h => ⟨⟨h.1, h.2.1, h.2.2.2.1, h.2.2.2.2.1, h.2.2.2.2.2.1⟩, ?_⟩, fun h => ?_⟩, fun hr hm => ?_⟩
    · have h5 := h.2.2.1
      have hla : (laN R).length = u8 R 26 := by unfold laN; rw [seg_length _ _ _ h.2.2.2.1]; omega
      refine ⟨Int.natCast_nonneg _, ?_, hg1.1 h.2.2.2.2.2.2, Int.natCast_nonneg _, ?_, ?_⟩
      · show ((u8 R 5 : Nat) : Int) ≤ 7
        omega
      · show ((leN (seg R 14 18) : Nat) : Int) ≤ 4294967295
        omega
      · show ((laN R).map fun x : Nat => (x : Int)).length ≤ 255
        rw [List.length_map]
        omega
    · obtain ⟨⟨r1, r2, r3, r4, r5⟩, m1, m2, m3, m4, m5, m6⟩ := h
      refine ⟨r1, r2, ?_, r3, r4, r5, hg1.2 m3⟩
      have : ((u8 R 5 : Nat) : Int) ≤ 7 := m2
      omega
    · have := hg2 hm.2.2.1
      unfold pgN rdG
      rw [this]
  · exact ⟨⟨fun h => absurd h.1 h27, fun h => absurd h.1.1 h27⟩, fun h => absurd h.1 h27⟩
theorem pgE_col (R : List Nat) (h256 : ∀ b ∈ R, b < 256) (P : List Pg) (op : Bool) (h : rdOk R) : pgE R P op = tkE P op (rdG R) := by
  obtain ⟨h1, h2⟩ := one_read R h256
  unfold pgE tkE
  by_cases hm : mayOk (rdG R)
  · have ho := h1.2 ⟨h, hm⟩
    have hp := h2 h hm
    rw [if_neg (show ¬ ¬ oneOk R from fun q => q ho), if_neg (show ¬ ¬ mayOk (rdG R) from fun q => q hm)]
    have hs : serOk R P ↔ pSer P (rdG R) := by unfold serOk pSer; rw [hp]
    have hd : ordOk R P op ↔ pOrd P op (rdG R) := by
      unfold ordOk pOrd
      rw [hp]
      have e : (rdG R).fl = ((u8 R 5 : Nat) : Int) := rfl
      rw [e]
      have e1 : (((u8 R 5 : Nat) : Int) / 2 % 2 = 1) ↔ (u8 R 5 / 2 % 2 = 1) := by omega
      have e2 : (((u8 R 5 : Nat) : Int) % 2 = 1) ↔ (u8 R 5 % 2 = 1) := by omega
      rw [e1, e2]
    by_cases hl : P.length = 65536
    · rw [if_pos hl, if_pos hl]
    · rw [if_neg hl, if_neg hl]
      by_cases h3 : pSer P (rdG R)
      · rw [if_neg (show ¬ ¬ serOk R P from fun q => q (hs.2 h3)), if_neg (show ¬ ¬ pSer P (rdG R) from fun q => q h3)]
        by_cases h4 : pOrd P op (rdG R)
        · rw [if_neg (show ¬ ¬ ordOk R P op from fun q => q (hd.2 h4)), if_neg (show ¬ ¬ pOrd P op (rdG R) from fun q => q h4)]
        · rw [if_pos (show ¬ ordOk R P op from fun q => h4 (hd.1 q)), if_pos h4]
      · rw [if_pos (show ¬ serOk R P from fun q => h3 (hs.1 q)), if_pos h3]
  · rw [if_pos (fun q => hm (h1.1 q).2), if_pos hm]
theorem opE_nat : ∀ (la : List Nat) (op : Bool), opE op (la.map fun x : Nat => (x : Int)) = opnL la op
  | [], op => by simp [opE, opnL]
  | [x], op => by
    unfold opE
    rw [if_neg (by simp)]
    show decide ((x : Int) = 255) = decide (x = 255)
    rw [decide_eq_decide]
    omega
  | x :: y :: t, op => by
    have ih := opE_nat (y :: t) (decide (x = 255))
    rw [opnL, ← ih]
    unfold opE
    rw [if_neg (by simp), if_neg (by simp)]
    simp
/-- What collecting has so far, as the plain reading tells it. -/
structure Z15 (Y : List PE) (P : List Pg) (K : List (List Nat)) (op : Bool) (hd : List Nat) : Prop where
  pg : pgF Y = P
  opn : opF Y = op
  cut : cutS (Y.map Prod.fst) = (K, op, hd)
theorem rdP_nat (s : ByteArray) : natL (rdP s).p.la = laN (bytesOf s) := int_nat _
theorem Z15.snoc {Y : List PE} {P : List Pg} {K : List (List Nat)} {op : Bool} {hd : List Nat} (h : Z15 Y P K op hd) (s : ByteArray) : Z15 (Y ++ [(rdP s, 0)]) (P ++ [rdG (bytesOf s)]) (cutL (laN (bytesOf s)) (bdN (bytesOf s)) K op hd).1 (cutL (laN (bytesOf s)) (bdN (bytesOf s)) K op hd).2.1 (cutL (laN (bytesOf s)) (bdN (bytesOf s)) K op hd).2.2 := by
  refine ⟨?_, ?_, ?_⟩
  · rw [pgF_snoc, h.pg]; rfl
  · rw [opF_snoc, h.opn, cut_open]
    exact opE_nat _ _
  · rw [List.map_append, List.map_singleton, cutS_snoc, h.cut, rdP_nat]
    show cutL (laN (bytesOf s)) (bytesOf (s.extract (27 + u8 (bytesOf s) 26) (endN (bytesOf s)))) K op hd = _
    rw [bytesOf_ext]
    rfl
theorem prs_run : ∀ (f : Nat) (s : ByteArray) (Y : List PE) (P : List Pg) (K : List (List Nat)) (op : Bool) (hd : List Nat), Z15 Y P K op hd → s.size < f → (P ≠ [] ∨ s.size ≠ 0) →
    prs f (bytesOf s) P K op hd = (if (runC (rdQ f s) Y).1 = 0 then (0, (runC (rdQ f s) Y).2.map (·.p), (cutS (runC (rdQ f s) Y).2).1) else ((runC (rdQ f s) Y).1, [], []))
  | 0, s, Y, P, K, op, hd, _, hf, _ => absurd hf (by omega)
  | f + 1, s, Y, P, K, op, hd, hz, hf, hne => by
    have h256 := bytesOf_lt s
    by_cases h0 : s.size = 0
    · have hP : P ≠ [] := by rcases hne with h | h; exact h; exact absurd h0 h
      have e1 : prs (f + 1) (bytesOf s) P K op hd = finP P K op := by rw [prs, if_pos (by rw [bytesOf_length]; exact h0)]
      have e2 : runC (rdQ (f + 1) s) Y = if whB (pgF Y) (opF Y) = true then (0, Y.map Prod.fst) else (2, []) := by rw [rdQ, if_pos h0, runC]
      rw [e1, e2, hz.pg, hz.opn]
      have e3 : (whB P op = true) ↔ (lasB P = true ∧ op = false) := by
        unfold whB
        rw [Bool.and_eq_true, Bool.and_eq_true, decide_eq_true_iff]
        cases op <;> simp [hP]
      unfold finP
      by_cases hw : lasB P = true ∧ op = false
      · rw [if_pos hw, if_pos (e3.2 hw)]
        show _ = (if (0 : Int) = 0 then _ else _)
        rw [if_pos rfl, List.map_map, hz.cut, ← hz.pg]
        rfl
      · rw [if_neg hw, if_neg (fun q => hw (e3.1 q))]
        rfl
    · have hb0 : ¬ (bytesOf s).length = 0 := by rw [bytesOf_length]; exact h0
      by_cases hr : rdOk (bytesOf s)
      · have e1 := pgE_col (bytesOf s) h256 P op hr
        have e2 : rdQ (f + 1) s = (rdP s, 0) :: rdQ f (s.extract (endN (bytesOf s)) s.size) := by rw [rdQ, if_neg h0, if_pos hr]
        have e3 : colE Y (rdP s, 0) = tkE P op (rdG (bytesOf s)) := by
          unfold colE
          rw [if_neg (fun q => q rfl), hz.pg, hz.opn]
          rfl
        rw [e2, runC, e3, prs, if_neg hb0, e1]
        by_cases ht : tkE P op (rdG (bytesOf s)) = 0
        · rw [if_pos ht, if_pos ht]
          have hm := (tkE_zero ht).1
          have hp := (one_read (bytesOf s) h256).2 hr hm
          have hen : endN (bytesOf s) ≤ s.size := by have := hr.2.2.2.1; rwa [bytesOf_length] at this
          have hx := ext_len s (endN (bytesOf s)) s.size hen (Nat.le_refl _)
          have hge := end_ge (bytesOf s)
          have := prs_run f (s.extract (endN (bytesOf s)) s.size) (Y ++ [(rdP s, 0)]) _ _ _ _ (hz.snoc s) (by omega) (Or.inl (by simp))
          rw [(ext_parts s _ hen).2] at this
          rw [hp]
          exact this
        · rw [if_neg ht, if_neg ht]
          show _ = (if tkE P op (rdG (bytesOf s)) = 0 then _ else _)
          rw [if_neg ht]
      · have e2 : rdQ (f + 1) s = [(Sh0, 2)] := by rw [rdQ, if_neg h0, if_neg hr]
        have e3 : colE Y (Sh0, 2) = 2 := by
          unfold colE
          rw [if_pos (by decide)]
        have e1 : pgE (bytesOf s) P op = 2 := pgE_one (fun q => hr ((one_read (bytesOf s) h256).1.1 q).1)
        rw [e2, runC, e3, prs, if_neg hb0, e1]
        rfl
/-- Reading plainly is collecting what is read. -/
theorem prs_all (s : ByteArray) : prsP (bytesOf s) = (if (runC (rdQ (s.size + 1) s) []).1 = 0 then (0, (runC (rdQ (s.size + 1) s) []).2.map (·.p), (cutS (runC (rdQ (s.size + 1) s) []).2).1) else ((runC (rdQ (s.size + 1) s) []).1, [], [])) := by
  by_cases h0 : s.size = 0
  · have e1 : prsP (bytesOf s) = (2, [], []) := by unfold prsP; rw [if_pos (by rw [bytesOf_length]; exact h0)]
    have e2 : rdQ (s.size + 1) s = [] := by rw [rdQ, if_pos h0]
    rw [e1, e2]
    rfl
  · have := prs_run (s.size + 1) s [] [] [] false [] ⟨rfl, rfl, rfl⟩ (by omega) (Or.inr h0)
    rw [← this]
    unfold prsP
    rw [if_neg (by rw [bytesOf_length]; exact h0), bytesOf_length]
theorem rdQ_fit : ∀ (f : Nat) (s : ByteArray) (x : PE), x ∈ rdQ f s → x.2 = 0 → fitS x.1
  | 0, s, x, h, _ => by simp [rdQ] at h
  | f + 1, s, x, h, h2 => by
    rw [rdQ] at h
    by_cases h0 : s.size = 0
    · rw [if_pos h0] at h; simp at h
    · rw [if_neg h0] at h
      by_cases hr : rdOk (bytesOf s)
      · rw [if_pos hr] at h
        rcases List.mem_cons.1 h with rfl | h
        · have h256 := bytesOf_lt s
          have h26 : u8 (bytesOf s) 26 < 256 := h256 _ (by unfold u8; rw [List.getD_eq_getElem?_getD, List.getElem?_eq_getElem (by have := hr.1; omega)]; exact List.getElem_mem _)
          have hla : (laN (bytesOf s)).length = u8 (bytesOf s) 26 := by unfold laN; rw [seg_length _ _ _ hr.2.2.1]; omega
          refine ⟨fun y hy => ?_, ?_, ?_⟩
          · obtain ⟨z, hz, rfl⟩ := List.mem_map.1 hy
            have := h256 z (seg_mem hz)
            omega
          · rw [rdP_nat]
            show (laN (bytesOf s)).sum = (s.extract (27 + u8 (bytesOf s) 26) (endN (bytesOf s))).size
            have hen := hr.2.2.2.1
            rw [bytesOf_length] at hen
            rw [ext_len s _ _ (by unfold endN; omega) hen]
            unfold endN
            omega
          · show ((laN (bytesOf s)).map fun x : Nat => (x : Int)).length ≤ 255
            rw [List.length_map]
            omega
        · exact rdQ_fit f _ x h h2
      · rw [if_neg hr, List.mem_singleton] at h
        subst h
        cases h2
/-- What was laid is read. -/
theorem lay_rdQ : ∀ (l : List Pg) (T : ByteArray) (f : Nat) (s : ByteArray), (∀ p ∈ l, numOk p ∧ lacOk p.la) → T.size = (natL (lacesL l)).sum → bytesOf s = layAll l (bytesOf T) → s.size < f → rdQ f s = ofL l T
  | [], T, 0, s, _, _, _, hf => absurd hf (by omega)
  | [], T, f + 1, s, _, _, hs, _ => by
    have h0 : s.size = 0 := by rw [← bytesOf_length, hs]; rfl
    rw [rdQ, if_pos h0]
    rfl
  | p :: t, T, 0, s, _, _, _, hf => absurd hf (by omega)
  | p :: t, T, f + 1, s, hn, hT, hs, hf => by
    have hp := hn p (by simp)
    have hT' : T.size = (natL p.la).sum + (natL (lacesL t)).sum := by
      rw [hT]
      show (natL (p.la ++ lacesL t)).sum = _
      rw [natL_app, List.sum_append]
    obtain ⟨x1, x2⟩ := ext_parts T (natL p.la).sum (by omega)
    have hbl : ((bytesOf T).take (natL p.la).sum).length = (natL p.la).sum := by rw [List.length_take, bytesOf_length]; omega
    obtain ⟨q1, q2, q3, q4⟩ := lay_one p ((bytesOf T).take (natL p.la).sum) (layAll t ((bytesOf T).drop (natL p.la).sum)) hp.1 hp.2 hbl
    have eR : bytesOf s = layP p ((bytesOf T).take (natL p.la).sum) ++ layAll t ((bytesOf T).drop (natL p.la).sum) := hs
    rw [← eR] at q1 q2 q3 q4
    have hpl := layP_length p ((bytesOf T).take (natL p.la).sum)
    have hlen : s.size = (layP p ((bytesOf T).take (natL p.la).sum)).length + (layAll t ((bytesOf T).drop (natL p.la).sum)).length := by rw [← bytesOf_length, eR, List.length_append]
    have h0 : ¬ s.size = 0 := by omega
    obtain ⟨o1, o2⟩ := one_read (bytesOf s) (bytesOf_lt s)
    obtain ⟨r1, r2⟩ := o1.1 q1
    have hen : endN (bytesOf s) ≤ s.size := by have := r1.2.2.2.1; rwa [bytesOf_length] at this
    have e1 : rdP s = ⟨p, T.extract 0 (natL p.la).sum⟩ := by
      have ea : rdG (bytesOf s) = p := by rw [← o2 r1 r2, q3]
      have eb : s.extract (27 + u8 (bytesOf s) 26) (endN (bytesOf s)) = T.extract 0 (natL p.la).sum := by
        apply bytes_inj
        rw [bytesOf_ext, x1, ← q4]
        rfl
      unfold rdP
      rw [ea, eb]
    have e2 : bytesOf (s.extract (endN (bytesOf s)) s.size) = layAll t (bytesOf (T.extract (natL p.la).sum T.size)) := by
      rw [(ext_parts s _ hen).2, q2, x2, eR, List.drop_append_of_le_length (Nat.le_refl _), List.drop_of_length_le (Nat.le_refl _), List.nil_append]
    rw [rdQ, if_neg h0, if_pos r1, ofL, e1, lay_rdQ t (T.extract (natL p.la).sum T.size) f _ (fun q hq => hn q (by simp [hq])) (by rw [ext_len T _ _ (by omega) (Nat.le_refl _)]; omega) e2 (by rw [ext_len s _ _ hen (Nat.le_refl _), q2]; omega)]
theorem ofL_pg : ∀ (l : List Pg) (T : ByteArray), pgF (ofL l T) = l
  | [], T => rfl
  | p :: t, T => by
    rw [ofL]
    show p :: pgF (ofL t _) = _
    rw [ofL_pg t]
theorem ofL_fit : ∀ (l : List Pg) (T : ByteArray), (∀ p ∈ l, lacOk p.la ∧ p.la.length ≤ 255) → T.size = (natL (lacesL l)).sum → ∀ x ∈ ofL l T, fitS x.1
  | [], T, _, _, x, hx => by simp [ofL] at hx
  | p :: t, T, hn, hT, x, hx => by
    have hT' : T.size = (natL p.la).sum + (natL (lacesL t)).sum := by
      rw [hT]
      show (natL (p.la ++ lacesL t)).sum = _
      rw [natL_app, List.sum_append]
    rw [ofL] at hx
    rcases List.mem_cons.1 hx with rfl | hx
    · exact ⟨(hn p (by simp)).1, by show (natL p.la).sum = (T.extract 0 (natL p.la).sum).size; rw [ext_len T 0 _ (by omega) (by omega)]; omega, (hn p (by simp)).2⟩
    · exact ofL_fit t _ (fun q hq => hn q (by simp [hq])) (by rw [ext_len T _ _ (by omega) (Nat.le_refl _)]; omega) x hx
theorem ofL_lay : ∀ (l : List Pg) (T : ByteArray), T.size = (natL (lacesL l)).sum → layS ((ofL l T).map Prod.fst) = layAll l (bytesOf T)
  | [], T, _ => rfl
  | p :: t, T, hT => by
    have hT' : T.size = (natL p.la).sum + (natL (lacesL t)).sum := by
      rw [hT]
      show (natL (p.la ++ lacesL t)).sum = _
      rw [natL_app, List.sum_append]
    obtain ⟨x1, x2⟩ := ext_parts T (natL p.la).sum (by omega)
    rw [ofL, List.map_cons]
    show layP p (bytesOf (T.extract 0 (natL p.la).sum)) ++ layS ((ofL t _).map Prod.fst) = _
    rw [ofL_lay t _ (by rw [ext_len T _ _ (by omega) (Nat.le_refl _)]; omega), x1, x2]
    rfl
/-- What collecting tells of pages that are to be laid. -/
theorem ofL_prs (l : List Pg) (T : ByteArray) (hn : ∀ p ∈ l, numOk p ∧ lacOk p.la) (hT : T.size = (natL (lacesL l)).sum) : (prsP (layAll l (bytesOf T))).1 = (runC (ofL l T) []).1 := by
  have h256 := layAll_lt l (bytesOf T) hn (bytesOf_lt T)
  have hs : bytesOf (textOf (layAll l (bytesOf T))) = layAll l (bytesOf T) := S2.bytesOf_textOf _ h256
  have h := prs_all (textOf (layAll l (bytesOf T)))
  rw [lay_rdQ l T _ _ hn hT hs (by omega), hs] at h
  rw [h]
  by_cases hz : (runC (ofL l T) []).1 = 0
  · rw [if_pos hz, hz]
  · rw [if_neg hz]
/-- Pages that were collected have numbers that are laid. -/
theorem OkC.num {l : List Pg} {T : ByteArray} (h : OkC (ofL l T)) (hg : ∀ p ∈ l, p.gr ≤ 9223372036854775807) : ∀ p ∈ l, numOk p := by
  intro p hp
  obtain ⟨i, hi⟩ := List.getElem?_of_mem hp
  have hil := (List.getElem?_eq_some_iff.1 hi).1
  obtain ⟨x, hx⟩ : ∃ x, (ofL l T)[i]? = some x := ⟨_, List.getElem?_eq_getElem (by rw [ofL_len]; exact hil)⟩
  have hpx : x.1.p = p := by
    have := congrArg (fun q => q[i]?) (ofL_pg l T)
    unfold pgF at this
    rw [List.getElem?_map, hx, hi] at this
    injection this
  have hc := h i _ hx
  have ht := (tkE_zero (colE_zero hc).2)
  rw [hpx] at ht
  obtain ⟨⟨m1, m2, m3, m4, m5, m6⟩, _, _, hsq, _⟩ := ht
  have hlen : (pgF ((ofL l T).take i)).length ≤ 65536 := by
    have := h.len
    unfold pgF
    rw [List.length_map, List.length_take]
    omega
  exact ⟨⟨m1, m2⟩, ⟨m3, hg p hp⟩, ⟨m4, m5⟩, ⟨by omega, by omega⟩, m6⟩

end Go.Proofs.YtjkamannjgcmiaaDoor
