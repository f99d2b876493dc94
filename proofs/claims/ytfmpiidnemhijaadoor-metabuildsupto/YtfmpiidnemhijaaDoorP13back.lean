/- Own text: blocks that were laid are read, blocks that were read are laid. -/
import Derived.Test.YtfmpiidnemhijaaDoorP13plain
namespace Go.Proofs.YtfmpiidnemhijaaDoor
open Go.RowKit
set_option linter.unusedSimpArgs false
set_option linter.unusedVariables false

theorem get_of_split {L X Y Z : List Nat} (h : L = X ++ (Y ++ Z)) : (L.take (X.length + Y.length)).drop X.length = Y := by
  subst h
  rw [List.take_append, List.take_of_length_le (by omega), List.drop_append_of_le_length (by omega), List.drop_of_length_le (by omega), List.nil_append, Nat.add_sub_cancel_left, List.take_append_of_le_length (by omega), List.take_of_length_le (by omega)]
theorem ext_of_split {s : ByteArray} {X Y Z : List Nat} (h : bytesOf s = X ++ (Y ++ Z)) {a b : Nat} (ha : a = X.length) (hb : b = X.length + Y.length) : bytesOf (s.extract a b) = Y := by
  subst ha hb
  rw [bytesOf_ext]
  exact get_of_split h
theorem numA_of_split {s : ByteArray} {X Y Z : List Nat} (h : bytesOf s = X ++ (Y ++ Z)) {a k : Nat} (ha : a = X.length) (hk : k = Y.length) : numA s a k = S2.val Y := by
  unfold numA
  rw [ext_of_split h ha (by omega)]
theorem highL_one (n : Nat) : S2.val [n] = n := by
  show 0 * 256 + n = n
  omega
theorem hedL_length (b : Blk) (last : Bool) : (hedL b last).length = 4 := by
  unfold hedL
  rw [List.length_cons, S2.highL_length]
theorem pceL_length (b : Blk) (last : Bool) : (pceL b last).length = 4 + b.body.size := by
  unfold pceL
  rw [List.length_append, hedL_length, bytesOf_length]
/-- A block that lies in a text. -/
theorem blk_lies {s : ByteArray} {b : Blk} {last : Bool} {X R : List Nat} (h : bytesOf s = X ++ (pceL b last ++ R)) (h0 : 0 ≤ b.ty) (h1 : b.ty ≤ 126) (h2 : b.body.size ≤ 16777215) {a : Nat} (ha : a = X.length) :
    hasB s a ∧ blkN s a = b ∧ nxtN s a = a + (pceL b last).length ∧ (128 ≤ numA s a 1 ↔ last = true) := by
  have hlen : s.size = X.length + ((pceL b last).length + R.length) := by rw [← bytesOf_length, h, List.length_append, List.length_append]
  rw [pceL_length] at hlen
  have e1 : bytesOf s = X ++ ([b.ty.toNat + if last then 128 else 0] ++ (S2.highL b.body.size 3 ++ bytesOf b.body ++ R)) := by
    rw [h]
    unfold pceL hedL
    simp only [List.cons_append, List.nil_append, List.append_assoc]
  have n1 : numA s a 1 = b.ty.toNat + if last then 128 else 0 := (numA_of_split e1 ha rfl).trans (highL_one _)
  have e2 : bytesOf s = (X ++ [b.ty.toNat + if last then 128 else 0]) ++ (S2.highL b.body.size 3 ++ (bytesOf b.body ++ R)) := by
    rw [e1]
    simp only [List.append_assoc]
  have n2 : numA s (a + 1) 3 = b.body.size := by
    rw [numA_of_split e2 (by rw [List.length_append, ha]; rfl) (by rw [S2.highL_length]), S2.val_highL]
    exact Nat.mod_eq_of_lt (by omega)
  have e3 : bytesOf s = (X ++ hedL b last) ++ (bytesOf b.body ++ R) := by
    rw [h]
    unfold pceL
    simp only [List.append_assoc]
  have n3 : s.extract (a + 4) (a + 4 + b.body.size) = b.body := by
    apply bytes_inj
    exact ext_of_split e3 (by rw [List.length_append, hedL_length, ha]) (by rw [List.length_append, hedL_length, bytesOf_length, ha])
  have hx : nxtN s a = a + (4 + b.body.size) := by unfold nxtN; rw [n2]; omega
  refine ⟨⟨by omega, by omega⟩, ?_, by rw [pceL_length]; exact hx, ?_⟩
  · unfold blkN
    rw [n1, n2, n3]
    have : (((b.ty.toNat + if last = true then 128 else 0) % 128 : Nat) : Int) = b.ty := by cases last <;> simp <;> omega
    rw [this]
  · rw [n1]
    cases last <;> simp <;> omega
theorem stdB_cons {b : Blk} {t : List Blk} {c : Nat} {hc : Bool} (h : stdB (b :: t) c hc = true) : rtE c hc b = 0 ∧ stdB t (c + 1) (cmt hc b) = true := by
  unfold stdB at h
  have h := Bool.and_eq_true_iff.1 h
  exact ⟨of_decide_eq_true h.1, h.2⟩
/-- What was laid is read. -/
theorem prs_lay (s : ByteArray) : ∀ (t : List Blk) (L : List Blk) (hc : Bool) (a f : Nat) (X R : List Nat), 0 < t.length → bytesOf s = X ++ (layL t ++ R) → a = X.length → stdB t L.length hc = true → t.length ≤ f → prs s f a L hc = (L ++ t, a + (layL t).length, 0)
  | [], L, hc, a, f, X, R, h, _, _, _, _ => absurd h (by simp)
  | b :: t, L, hc, a, 0, X, R, _, _, _, _, hf => absurd hf (by simp)
  | b :: t, L, hc, a, f + 1, X, R, _, hs, ha, hst, hf => by
    obtain ⟨hr, hst⟩ := stdB_cons hst
    obtain ⟨c1, c2, c3⟩ := chkE_zero (rtE_zero hr).2.2.2.2
    have hs' : bytesOf s = X ++ (pceL b t.isEmpty ++ (layL t ++ R)) := by
      rw [hs]
      show X ++ (pceL b t.isEmpty ++ layL t ++ R) = _
      rw [List.append_assoc]
    obtain ⟨q1, q2, q3, q4⟩ := blk_lies hs' c1 c2 c3 ha
    have hl : (layL (b :: t)).length = (pceL b t.isEmpty).length + (layL t).length := by
      show (pceL b t.isEmpty ++ layL t).length = _
      rw [List.length_append]
    rw [prs, if_pos q1, q2, if_pos hr]
    cases t with
    | nil =>
      rw [if_pos (q4.2 rfl), q3, hl]
      rfl
    | cons c u =>
      rw [if_neg (fun q => by have := q4.1 q; cases this), q3]
      have hs2 : bytesOf s = (X ++ pceL b (c :: u).isEmpty) ++ (layL (c :: u) ++ R) := by rw [hs', List.append_assoc]
      rw [prs_lay s (c :: u) (L ++ [b]) (cmt hc b) _ f (X ++ pceL b (c :: u).isEmpty) R (by simp) hs2 (by rw [List.length_append, ha]) (by rw [List.length_append]; exact hst) (by simp at hf ⊢; omega), hl]
      simp only [List.append_assoc, List.cons_append, List.nil_append, Prod.mk.injEq, true_and, and_true]
      omega
theorem stdB_len : ∀ (t : List Blk) (c : Nat) (hc : Bool), stdB t c hc = true → c ≤ 1024 → c + t.length ≤ 1024
  | [], c, hc, _, h => h
  | b :: t, c, hc, hs, h => by
    obtain ⟨hr, hst⟩ := stdB_cons hs
    have := (rtE_zero hr).2.2.2.1
    have := stdB_len t (c + 1) _ hst (by omega)
    simp only [List.length_cons]
    omega
theorem stdB_app : ∀ (L : List Blk) (b : Blk) (c : Nat) (hc : Bool), stdB (L ++ [b]) c hc = (stdB L c hc && decide (rtE (c + L.length) (hc || L.any fun x => decide (x.ty = 4)) b = 0))
  | [], b, c, hc => by
    show (decide _ && stdB [] _ _) = (true && _)
    simp [stdB]
  | d :: L, b, c, hc => by
    show (decide _ && stdB (L ++ [b]) _ _) = ((decide _ && stdB L _ _) && _)
    rw [stdB_app L b (c + 1) (cmt hc d), Bool.and_assoc, List.any_cons, List.length_cons, show c + 1 + L.length = c + (L.length + 1) by omega]
    unfold cmt
    rw [Bool.or_assoc]
/-- A block that is there, as bytes. -/
theorem blk_bytes (s : ByteArray) (a : Nat) (h : hasB s a) : (bytesOf s).take (nxtN s a) = (bytesOf s).take a ++ pceL (blkN s a) (decide (128 ≤ numA s a 1)) := by
  obtain ⟨h4, hn⟩ := h
  have hb := bytesOf_length s
  have e0 : ∀ b, a ≤ b → (bytesOf s).take b = (bytesOf s).take a ++ bytesOf (s.extract a b) := fun b hab => by
    rw [bytesOf_ext]
    have := List.take_append_drop a ((bytesOf s).take b)
    rw [List.take_take, Nat.min_eq_left hab] at this
    exact this.symm
  have e1 : ∀ m b, a ≤ m → m ≤ b → bytesOf (s.extract a b) = bytesOf (s.extract a m) ++ bytesOf (s.extract m b) := fun m b h1 h2 => by
    rw [bytesOf_ext, bytesOf_ext, bytesOf_ext]
    have := List.take_append_drop m ((bytesOf s).take b)
    rw [List.take_take, Nat.min_eq_left h2] at this
    conv => lhs; rw [← this]
    rw [List.drop_append_of_le_length]
    rw [List.length_take, hb]
    omega
  have n1 := numA_lt s a 1 (by decide)
  have n3 := numA_lt s (a + 1) 3 (by decide)
  have x1 : bytesOf (s.extract a (a + 1)) = [numA s a 1] := by
    have hl : (bytesOf (s.extract a (a + 1))).length = 1 := by rw [bytesOf_length, ext_len _ _ _ (by omega) (by omega)]; omega
    obtain ⟨x, hx⟩ := List.length_eq_one_iff.1 hl
    unfold numA
    rw [hx, highL_one]
  have x3 : bytesOf (s.extract (a + 1) (a + 4)) = S2.highL (numA s (a + 1) 3) 3 := by
    have hl : (bytesOf (s.extract (a + 1) (a + 4))).length = 3 := by rw [bytesOf_length, ext_len _ _ _ (by omega) (by omega)]; omega
    match hm : bytesOf (s.extract (a + 1) (a + 4)), hl with
    | [u, v, w], _ =>
      have hu : ∀ x ∈ [u, v, w], x < 256 := by rw [← hm]; exact bytesOf_lt _
      have hv : numA s (a + 1) 3 = (u * 256 + v) * 256 + w := by
        unfold numA
        rw [show a + 1 + 3 = a + 4 by omega, hm]
        show ((0 * 256 + u) * 256 + v) * 256 + w = _
        omega
      have b0 := hu u (by simp)
      have b1 := hu v (by simp)
      have b2 := hu w (by simp)
      rw [hv]
      show _ = [_, _, _]
      simp only [List.cons.injEq, and_true]
      refine ⟨?_, ?_, ?_⟩ <;> simp only [Nat.reducePow, Nat.reduceSub] <;> omega
  rw [e0 _ (by unfold nxtN; omega), e1 (a + 1) _ (by omega) (by unfold nxtN; omega), x1]
  have e2 : ∀ m b, a + 1 ≤ m → m ≤ b → bytesOf (s.extract (a + 1) b) = bytesOf (s.extract (a + 1) m) ++ bytesOf (s.extract m b) := fun m b h1 h2 => by
    rw [bytesOf_ext, bytesOf_ext, bytesOf_ext]
    have := List.take_append_drop m ((bytesOf s).take b)
    rw [List.take_take, Nat.min_eq_left h2] at this
    conv => lhs; rw [← this]
    rw [List.drop_append_of_le_length]
    rw [List.length_take, hb]
    omega
  rw [e2 (a + 4) _ (by omega) (by unfold nxtN; omega), x3]
  have hsz : (s.extract (a + 4) (a + 4 + numA s (a + 1) 3)).size = numA s (a + 1) 3 := by
    unfold nxtN at hn
    rw [ext_len _ _ _ (by omega) hn]
    omega
  unfold pceL hedL blkN
  simp only [hsz, Int.toNat_natCast]
  have ht : (numA s a 1 % 128 + if decide (128 ≤ numA s a 1) = true then 128 else 0) = numA s a 1 := by
    by_cases q : 128 ≤ numA s a 1
    · rw [if_pos (decide_eq_true q)]
      omega
    · rw [if_neg (by simpa using q)]
      omega
  rw [ht]
  unfold nxtN
  simp only [List.cons_append, List.nil_append, List.append_assoc]
/-- What was read is laid. -/
theorem prs_again (s : ByteArray) : ∀ (f a : Nat) (L : List Blk) (M : List Blk) (n : Nat), prs s f a L (L.any fun x => decide (x.ty = 4)) = (M, n, 0) → stdB L 0 false = true → (bytesOf s).take a = layQ L →
    stdB M 0 false = true ∧ 0 < M.length ∧ n ≤ s.size ∧ (bytesOf s).take n = layL M
  | 0, a, L, M, n, h, _, _ => by
    unfold prs at h
    simp at h
  | f + 1, a, L, M, n, h, hst, hla => by
    rw [prs] at h
    split at h
    · rename_i hb
      split at h
      · rename_i hr
        have hst' : stdB (L ++ [blkN s a]) 0 false = true := by
          rw [stdB_app, hst, Bool.true_and, Nat.zero_add, Bool.false_or]
          exact decide_eq_true hr
        have hby := blk_bytes s a hb
        split at h
        · rename_i h128
          simp only [Prod.mk.injEq, and_true] at h
          obtain ⟨rfl, rfl⟩ := h
          refine ⟨hst', by simp, hb.2, ?_⟩
          rw [hby, hla, layL_snoc, decide_eq_true h128]
        · rename_i h128
          refine prs_again s f (nxtN s a) (L ++ [blkN s a]) M n ?_ hst' ?_
          · rw [List.any_append, List.any_cons, List.any_nil, Bool.or_false]
            exact h
          · rw [hby, hla, layQ_snoc, decide_eq_false h128]
      · rename_i hr
        simp only [Prod.mk.injEq] at h
        exact absurd h.2.2 hr
    · simp at h
theorem prsN_again {s : ByteArray} {M : List Blk} {n : Nat} (h : prsN s = (M, n, 0)) : mayS M = true ∧ n ≤ s.size ∧ (bytesOf s).take n = layL M := by
  obtain ⟨h1, h2, h3, h4⟩ := prs_again s 1025 0 [] M n h rfl rfl
  refine ⟨?_, h3, h4⟩
  unfold mayS
  rw [h1, decide_eq_true h2]
  rfl
theorem prsN_lay {s : ByteArray} {l : List Blk} {R : List Nat} (h : mayS l = true) (hs : bytesOf s = layL l ++ R) : prsN s = (l, (layL l).length, 0) := by
  have h := Bool.and_eq_true_iff.1 h
  have hl := stdB_len l 0 false h.1 (by decide)
  have := prs_lay s l [] false 0 1025 [] R (of_decide_eq_true h.2) (by rw [hs]; rfl) rfl h.1 (by omega)
  rw [List.nil_append, Nat.zero_add] at this
  exact this
theorem prs_bad (s : ByteArray) : ∀ (f a : Nat) (L : List Blk) (hc : Bool), (prs s f a L hc).2.2 ≠ 0 → (prs s f a L hc).1 = [] ∧ (prs s f a L hc).2.1 = 0
  | 0, a, L, hc, _ => ⟨rfl, rfl⟩
  | f + 1, a, L, hc, h => by
    rw [prs] at h ⊢
    split
    · rename_i hb
      rw [if_pos hb] at h
      split
      · rename_i hr
        rw [if_pos hr] at h
        split
        · rename_i h1
          rw [if_pos h1] at h
          exact absurd rfl h
        · rename_i h1
          rw [if_neg h1] at h
          exact prs_bad s f _ _ _ h
      · exact ⟨rfl, rfl⟩
    · exact ⟨rfl, rfl⟩
theorem mayS_mem {l : List Blk} (h : mayS l = true) : l.length ≤ 1024 ∧ 0 < l.length := by
  have h := Bool.and_eq_true_iff.1 h
  have hl := stdB_len l 0 false h.1 (by decide)
  exact ⟨by omega, of_decide_eq_true h.2⟩
theorem std_mem : ∀ (l : List Blk) (c : Nat) (hc : Bool), stdB l c hc = true → ∀ b ∈ l, 0 ≤ b.ty ∧ b.ty ≤ 126 ∧ b.body.size ≤ 16777215 ∧ chkE b = 0
  | [], _, _, _, b, hb => by cases hb
  | d :: t, c, hc, h, b, hb => by
    obtain ⟨hr, hst⟩ := stdB_cons h
    rcases List.mem_cons.1 hb with rfl | hb
    · have e := (rtE_zero hr).2.2.2.2
      obtain ⟨a1, a2, a3⟩ := chkE_zero e
      exact ⟨a1, a2, a3, e⟩
    · exact std_mem t _ _ hst b hb
theorem pceL_256 {b : Blk} (last : Bool) (h0 : 0 ≤ b.ty) (h1 : b.ty ≤ 126) : ∀ x ∈ pceL b last, x < 256 := by
  intro x hx
  unfold pceL hedL at hx
  rcases List.mem_append.1 hx with hx | hx
  · rcases List.mem_cons.1 hx with rfl | hx
    · cases last <;> simp <;> omega
    · exact S2.highL_lt _ _ x hx
  · exact bytesOf_lt _ x hx
theorem layL_256 : ∀ (l : List Blk), (∀ b ∈ l, 0 ≤ b.ty ∧ b.ty ≤ 126 ∧ b.body.size ≤ 16777215 ∧ chkE b = 0) → ∀ x ∈ layL l, x < 256
  | [], _, x, hx => by cases hx
  | b :: t, h, x, hx => by
    have hx : x ∈ pceL b t.isEmpty ++ layL t := hx
    obtain ⟨h0, h1, _⟩ := h b (by simp)
    rcases List.mem_append.1 hx with hx | hx
    · exact pceL_256 _ h0 h1 x hx
    · exact layL_256 t (fun c hc => h c (by simp [hc])) x hx

end Go.Proofs.YtfmpiidnemhijaaDoor
