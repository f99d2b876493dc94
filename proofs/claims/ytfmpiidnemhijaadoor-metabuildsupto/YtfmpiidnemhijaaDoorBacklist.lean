/- Own text: what was written is read as it was: the plain part (lists of bits, no walk). -/
import Derived.Test.YtfmpiidnemhijaaDoorWrites
import Derived.Test.YtfmpiidnemhijaaDoorReads
namespace Go.Proofs.YtfmpiidnemhijaaDoor
open Go.RowKit
set_option linter.unusedSimpArgs false
set_option linter.unusedVariables false


theorem bitsOf_num (X : List Nat) (h : Bits01 X) : bitsOf (num X) X.length = X := by
  induction X with
  | nil => rfl
  | cons x t ih =>
    have hx : x < 2 := h x (by simp)
    have ht : Bits01 t := fun b hb => h b (by simp [hb])
    have hl := num_lt t ht
    rw [List.length_cons, bitsOf, num_cons]
    have e1 : (x * 2 ^ t.length + num t) / 2 ^ t.length % 2 = x := by
      rw [Nat.mul_comm, Nat.mul_add_div (Nat.two_pow_pos _), Nat.div_eq_of_lt hl]
      omega
    have e2 : bitsOf (x * 2 ^ t.length + num t) t.length = bitsOf (num t) t.length := by
      rw [← bitsOf_mod (x * 2 ^ t.length + num t) t.length t.length (Nat.le_refl _), Nat.mul_comm, Nat.mul_add_mod, bitsOf_mod _ _ _ (Nat.le_refl _)]
    rw [e1, e2, ih ht]

theorem bits_byte (C : List Nat) (h01 : Bits01 C) (m : Nat) (h : 8 * m + 8 ≤ C.length) : bitsOf (byteOf C m) 8 = (C.drop (8 * m)).take 8 := by
  have hl : ((C.drop (8 * m)).take 8).length = 8 := by rw [List.length_take, List.length_drop]; omega
  have e : byteOf C m = num ((C.drop (8 * m)).take 8) := by unfold byteOf; rw [hl]; simp
  have := bitsOf_num _ ((h01.drop (8 * m)).take 8)
  rw [hl] at this
  rw [e, this]

theorem sbits_append (a b : List Nat) : sbits (a ++ b) = sbits a ++ sbits b := by unfold sbits; rw [List.flatMap_append]

theorem sbits_packN (B : List Nat) (h01 : Bits01 B) (K m : Nat) (h : 8 * m ≤ B.length + K) : sbits (packN B m) = (B ++ List.replicate K 0).take (8 * m) := by
  induction m with
  | zero => simp [packN, sbits]
  | succ m ih =>
    have e : packN B (m + 1) = packN B m ++ [byteOf B m] := by unfold packN; rw [List.range_succ, List.map_append]; rfl
    have hC : Bits01 (B ++ List.replicate K 0) := h01.append (Bits01.zeros K)
    rw [e, sbits_append, ih (by omega), ← byteOf_zeros B K m]
    have e2 : sbits [byteOf (B ++ List.replicate K 0) m] = bitsOf (byteOf (B ++ List.replicate K 0) m) 8 := by simp [sbits]
    rw [e2, bits_byte _ hC m (by simp; omega), show 8 * (m + 1) = 8 * m + 8 from by omega, List.take_add]

theorem sbits_pack (B : List Nat) (h01 : Bits01 B) : ∃ Z, sbits (pack B) = B ++ Z ∧ (B ++ Z).length = 8 * ((B.length + 7) / 8) := by
  have h := sbits_packN B h01 (8 * ((B.length + 7) / 8) - B.length) ((B.length + 7) / 8) (by omega)
  have hl : (B ++ List.replicate (8 * ((B.length + 7) / 8) - B.length) 0).length = 8 * ((B.length + 7) / 8) := by simp; omega
  refine ⟨List.replicate (8 * ((B.length + 7) / 8) - B.length) 0, ?_, hl⟩
  unfold pack
  rw [h]
  exact List.take_of_length_le (by omega)

theorem bytesOf_textOf (bs : List Nat) (h : ∀ b ∈ bs, b < 256) : bytesOf (textOf bs) = bs := by
  unfold bytesOf textOf
  simp only [List.map_map]
  induction bs with
  | nil => rfl
  | cons x t ih =>
    have hx : x < 256 := h x (by simp)
    rw [List.map_cons, ih (fun b hb => h b (by simp [hb]))]
    congr 1
    simp
    omega

theorem textOf_size (bs : List Nat) : (textOf bs).size = bs.length := by
  show (List.map _ bs).toArray.size = _
  simp

theorem pack_256 (B : List Nat) (h01 : Bits01 B) : ∀ b ∈ pack B, b < 256 := by
  intro b hb
  unfold pack packN at hb
  obtain ⟨i, _, rfl⟩ := List.mem_map.1 hb
  exact byteOf_lt B h01 i

/-- The bits ahead, at the place where X was written. -/
theorem ahead_pack (B B1 X R : List Nat) (h01 : Bits01 B) (hB : B = B1 ++ X ++ R) : ∃ R', ahead (textOf (pack B)) B1.length = X ++ R' ∧ B1.length + X.length + R.length ≤ 8 * (textOf (pack B)).size := by
  obtain ⟨Z, hz, hl⟩ := sbits_pack B h01
  have hs : (textOf (pack B)).size = (B.length + 7) / 8 := by rw [textOf_size, pack_length]
  refine ⟨R ++ Z, ?_, ?_⟩
  · unfold ahead
    rw [bytesOf_textOf _ (pack_256 B h01), hz, hB, List.append_assoc, List.append_assoc, List.drop_append, List.drop_eq_nil_of_le (Nat.le_refl _), Nat.sub_self, List.drop_zero, List.nil_append]
  · rw [hs]
    have : B.length = B1.length + X.length + R.length := by rw [hB]; simp; omega
    omega

theorem bitsAt_ahead (s : ByteArray) (a u k : Nat) (R : List Nat) (h : ahead s a = bitsOf u k ++ R) : bitsAt s a k = u % 2 ^ k := by
  unfold bitsAt
  have h' : (sbits (bytesOf s)).drop a = bitsOf u k ++ R := h
  rw [h', List.take_append, List.take_of_length_le (by rw [bitsOf_length]; omega), bitsOf_length, Nat.sub_self, List.take_zero, List.append_nil, num_bitsOf]

theorem lead_unary (n : Nat) (R : List Nat) : lead (List.replicate n 0 ++ [1] ++ R) = n := by
  induction n with
  | zero => simp [lead]
  | succ n ih =>
    rw [List.replicate_succ, List.cons_append, List.cons_append, lead_cons, if_pos rfl, ih]
    omega

theorem ahead_drop (s : ByteArray) (a k : Nat) : (ahead s a).drop k = ahead s (a + k) := by unfold ahead; rw [List.drop_drop]

theorem get_back (s : ByteArray) (a : Nat) (U W : Int) (u1 : 0 ≤ U) (R : List Nat) (h : ahead s a = putB U W ++ R) (hl : a + (putB U W).length ≤ 8 * s.size) (hE : putE U W = 0) :
    getE s a W = 0 ∧ getV s a W = U ∧ getA s a W = a + (putB U W).length := by
  unfold putE at hE
  by_cases hc : 0 ≤ W ∧ W ≤ 64 ∧ U < 2 ^ W.toNat
  · unfold putB at h hl ⊢
    rw [if_pos hc] at h hl ⊢
    rw [bitsOf_length] at hl ⊢
    have e : getE s a W = 0 := by unfold getE; rw [if_neg (by omega), if_neg (by omega)]
    refine ⟨e, ?_, ?_⟩
    · unfold getV
      rw [if_pos e, bitsAt_ahead s a _ _ R h]
      have e2 : (2 : Int) ^ W.toNat = ((2 ^ W.toNat : Nat) : Int) := by simp
      have := hc.2.2
      rw [e2] at this
      rw [Nat.mod_eq_of_lt (by omega)]
      omega
    · unfold getA; rw [if_pos e]
  · rw [if_neg hc] at hE; omega

theorem sgn_asU (n : Int) (k : Nat) (h1 : 1 ≤ k) (h2 : k ≤ 64) (a1 : -2 ^ (k - 1) ≤ n) (a2 : n < 2 ^ (k - 1)) : sgn (asU n % 2 ^ k) k = n := by
  obtain ⟨H, hH⟩ : ∃ H, H = (2 : Nat) ^ (k - 1) := ⟨_, rfl⟩
  have hk : (2 : Nat) ^ k = 2 * H := by rw [hH, ← Nat.pow_succ', show (k - 1).succ = k from by omega]
  have hi : (2 : Int) ^ (k - 1) = (H : Int) := by rw [hH]; simp
  have hki : (2 : Int) ^ k = ((2 * H : Nat) : Int) := by rw [← hk]; simp
  have hH0 : 0 < H := by rw [hH]; exact Nat.two_pow_pos _
  have hdvd : (((2 * H : Nat) : Int)) ∣ 18446744073709551616 := by
    refine ⟨((2 ^ (64 - k) : Nat) : Int), ?_⟩
    have e : (2 * H) * 2 ^ (64 - k) = 18446744073709551616 := by rw [← hk, ← Nat.pow_add, show k + (64 - k) = 64 from by omega]
    rw [← Int.natCast_mul, e]
    rfl
  have hm : ((asU n % (2 * H) : Nat) : Int) = n % ((2 * H : Nat) : Int) := by
    rw [Int.natCast_emod]
    have e : (asU n : Int) = n % 18446744073709551616 := by unfold asU; omega
    rw [e, Int.emod_emod_of_dvd n hdvd]
  rw [hi] at a1 a2
  unfold sgn
  rw [hk, ← hH, hki]
  by_cases hn : 0 ≤ n
  · have e : n % ((2 * H : Nat) : Int) = n := Int.emod_eq_of_lt hn (by omega)
    rw [e] at hm
    rw [if_neg (by omega)]
    exact hm
  · have e : n % ((2 * H : Nat) : Int) = n + ((2 * H : Nat) : Int) := by
      rw [← Int.add_emod_right n, Int.emod_eq_of_lt (by omega) (by omega)]
    rw [e] at hm
    rw [if_pos (by omega), hm]
    omega

theorem sig_back (s : ByteArray) (a : Nat) (N W : Int) (R : List Nat) (h : ahead s a = sigB N W ++ R) (hl : a + (sigB N W).length ≤ 8 * s.size) (hE : sigE N W = 0) :
    sgnE s a W = 0 ∧ sgnV s a W = N ∧ sgnA s a W = a + (sigB N W).length := by
  unfold sigE at hE
  by_cases hc : 1 ≤ W ∧ W ≤ 64 ∧ -2 ^ (W.toNat - 1) ≤ N ∧ N < 2 ^ (W.toNat - 1)
  · unfold sigB at h hl ⊢
    rw [if_pos hc] at h hl ⊢
    rw [bitsOf_length] at hl ⊢
    have e : sgnE s a W = 0 := by unfold sgnE; rw [if_neg (by omega), if_neg (by omega)]
    refine ⟨e, ?_, ?_⟩
    · unfold sgnV
      rw [if_pos e, bitsAt_ahead s a _ _ R h]
      exact sgn_asU N W.toNat (by omega) (by omega) hc.2.2.1 hc.2.2.2
    · unfold sgnA; rw [if_pos e]
  · rw [if_neg hc] at hE; omega

theorem unr_back (s : ByteArray) (a : Nat) (N : Int) (R : List Nat) (h : ahead s a = unrB N ++ R) (hl : a + (unrB N).length ≤ 8 * s.size) (hE : unrE N = 0) :
    unaE s a = 0 ∧ unaV s a = N ∧ unaA s a = a + (unrB N).length := by
  unfold unrE at hE
  by_cases hc : 0 ≤ N ∧ N ≤ 16777216
  · unfold unrB at h hl ⊢
    rw [if_pos hc] at h hl ⊢
    have hlead : lead (ahead s a) = N.toNat := by rw [h]; exact lead_unary _ _
    rw [List.length_append, List.length_replicate, List.length_singleton] at hl ⊢
    have e : unaE s a = 0 := by unfold unaE; rw [hlead, if_neg (by omega), if_neg (by omega)]
    refine ⟨e, ?_, ?_⟩
    · unfold unaV; rw [if_pos e, hlead]; omega
    · unfold unaA; rw [if_pos e, hlead]; omega
  · rw [if_neg hc] at hE; omega

theorem unfold_fold (n : Int) : unfoldN (foldN n) = n := by
  by_cases h : 0 ≤ n
  · have e := foldN_pos n h
    unfold unfoldN
    rw [if_pos (by omega)]
    omega
  · have e := foldN_neg n (by omega)
    unfold unfoldN
    rw [if_neg (by omega)]
    omega

theorem ric_back (s : ByteArray) (a : Nat) (N W : Int) (R : List Nat) (h : ahead s a = rcwB N W ++ R) (hl : a + (rcwB N W).length ≤ 8 * s.size) (hE : rcwE N W = 0) :
    ricE s a W = 0 ∧ ricV s a W = N ∧ ricA s a W = a + (rcwB N W).length := by
  unfold rcwE at hE
  by_cases hc : 0 ≤ W ∧ W ≤ 30 ∧ foldN N / 2 ^ W.toNat ≤ 16777216
  · unfold rcwB at h hl ⊢
    rw [if_pos hc] at h hl ⊢
    rw [List.append_assoc] at h
    have hlead : lead (ahead s a) = foldN N / 2 ^ W.toNat := by rw [h]; exact lead_unary _ _
    rw [List.length_append, List.length_append, List.length_replicate, List.length_singleton, bitsOf_length] at hl ⊢
    obtain ⟨q, hq⟩ : ∃ q, q = foldN N / 2 ^ W.toNat := ⟨_, rfl⟩
    rw [← hq] at hlead hl h hc ⊢
    have hu : unaE s a = 0 := by unfold unaE; rw [hlead, if_neg (by omega), if_neg (by omega)]
    have e : ricE s a W = 0 := by unfold ricE; rw [if_neg (by omega), if_pos hu, hlead, if_neg (by omega)]
    have hlow : bitsAt s (a + q + 1) W.toNat = foldN N % 2 ^ W.toNat := by
      refine bitsAt_ahead s _ _ _ R ?_
      have := ahead_drop s a (q + 1)
      rw [← Nat.add_assoc] at this
      rw [← this, h, List.drop_append, List.drop_eq_nil_of_le (by simp), List.nil_append]
      simp
    refine ⟨e, ?_, ?_⟩
    · unfold ricV
      rw [if_pos e, hlead, hlow, hq, Nat.mul_comm, Nat.div_add_mod]
      exact unfold_fold N
    · unfold ricA; rw [if_pos e, hlead]; omega
  · rw [if_neg hc] at hE; omega

theorem ali_back (s : ByteArray) (B1 : List Nat) (R : List Nat) (h : ahead s B1.length = aliB B1 ++ R) : padOf B1.length = (aliB B1).length ∧ bitsAt s B1.length (padOf B1.length) = 0 := by
  have e : padOf B1.length = (aliB B1).length := by unfold padOf aliB; rw [List.length_replicate]; omega
  refine ⟨e, ?_⟩
  unfold bitsAt
  have h' : (sbits (bytesOf s)).drop B1.length = aliB B1 ++ R := h
  rw [h', e, List.take_left]
  unfold aliB
  exact num_zeros _
end Go.Proofs.YtfmpiidnemhijaaDoor
