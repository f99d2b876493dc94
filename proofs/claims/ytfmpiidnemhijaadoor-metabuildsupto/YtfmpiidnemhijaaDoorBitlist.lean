/- Own text: lists of bits, the numbers that they say, and how they are packed into bytes. It speaks of no program and no memory. -/

namespace Go.Proofs.YtfmpiidnemhijaaDoor
set_option linter.unusedSimpArgs false
set_option linter.unusedVariables false


/-- The number that bits say, the highest first. -/
def num (L : List Nat) : Nat := L.foldl (fun a b => 2 * a + b) 0

/-- The k lowest bits of n, the highest first. -/
def bitsOf (n : Nat) : Nat → List Nat
  | 0 => []
  | k + 1 => (n / 2 ^ k % 2) :: bitsOf n k

/-- All are bits. -/
def Bits01 (L : List Nat) : Prop := ∀ b ∈ L, b < 2

theorem num_foldl (L : List Nat) (a : Nat) : L.foldl (fun a b => 2 * a + b) a = a * 2 ^ L.length + num L := by
  induction L generalizing a with
  | nil => simp [num]
  | cons x t ih =>
    simp only [List.foldl_cons, num, List.length_cons]
    rw [ih, ih (2 * 0 + x), Nat.pow_succ]
    have e : a * (2 ^ t.length * 2) = (2 * a) * 2 ^ t.length := by rw [Nat.mul_comm (2 ^ t.length) 2, ← Nat.mul_assoc, Nat.mul_comm a 2]
    rw [e, Nat.add_mul, Nat.add_mul]
    omega

theorem num_append (A B : List Nat) : num (A ++ B) = num A * 2 ^ B.length + num B := by
  unfold num
  rw [List.foldl_append]
  exact num_foldl B _

theorem num_nil : num [] = 0 := rfl
theorem num_cons (x : Nat) (t : List Nat) : num (x :: t) = x * 2 ^ t.length + num t := by
  have := num_append [x] t
  simpa [num] using this

theorem num_zeros (k : Nat) : num (List.replicate k 0) = 0 := by
  induction k with
  | zero => rfl
  | succ k ih => rw [List.replicate_succ, num_cons, ih]; simp

theorem num_lt (L : List Nat) (h : Bits01 L) : num L < 2 ^ L.length := by
  induction L with
  | nil => simp [num]
  | cons x t ih =>
    have hx : x < 2 := h x (by simp)
    have ht := ih (fun b hb => h b (by simp [hb]))
    rw [num_cons, List.length_cons, Nat.pow_succ]
    have : x * 2 ^ t.length ≤ 1 * 2 ^ t.length := Nat.mul_le_mul_right _ (by omega)
    omega

theorem bitsOf_length (n k : Nat) : (bitsOf n k).length = k := by induction k with
  | zero => rfl
  | succ k ih => simp [bitsOf, ih]

theorem bitsOf_01 (n k : Nat) : Bits01 (bitsOf n k) := by
  induction k with
  | zero => intro b hb; simp [bitsOf] at hb
  | succ k ih =>
    intro b hb
    simp only [bitsOf, List.mem_cons] at hb
    rcases hb with rfl | hb
    · omega
    · exact ih b hb

theorem num_bitsOf (n k : Nat) : num (bitsOf n k) = n % 2 ^ k := by
  induction k with
  | zero => simp [bitsOf, num, Nat.mod_one]
  | succ k ih =>
    rw [bitsOf, num_cons, ih, bitsOf_length, Nat.mod_pow_succ, Nat.mul_comm]
    omega

/-- The bits of a number and those of what is left of it above. -/
theorem bitsOf_add (n a b : Nat) : bitsOf n (a + b) = bitsOf (n / 2 ^ b) a ++ bitsOf n b := by
  induction a with
  | zero => simp [bitsOf]
  | succ a ih =>
    rw [show a + 1 + b = (a + b) + 1 from by omega]
    simp only [bitsOf, List.cons_append]
    rw [ih, Nat.div_div_eq_div_mul, ← Nat.pow_add, Nat.add_comm b a]

theorem bitsOf_mod (n k j : Nat) (h : j ≤ k) : bitsOf (n % 2 ^ k) j = bitsOf n j := by
  induction j with
  | zero => rfl
  | succ j ih =>
    simp only [bitsOf]
    rw [ih (by omega)]
    congr 1
    have h1 : n % 2 ^ k / 2 ^ j % 2 = (n % 2 ^ k) % 2 ^ (j + 1) / 2 ^ j := by
      rw [Nat.pow_succ, Nat.mod_mul_right_div_self]
    have h2 : n / 2 ^ j % 2 = n % 2 ^ (j + 1) / 2 ^ j := by
      rw [Nat.pow_succ, Nat.mod_mul_right_div_self]
    rw [h1, h2, Nat.mod_mod_of_dvd _ (Nat.pow_dvd_pow 2 h)]

theorem Bits01.append {A B : List Nat} (h : Bits01 A) (k : Bits01 B) : Bits01 (A ++ B) := by
  intro b hb
  rcases List.mem_append.1 hb with hb | hb
  · exact h b hb
  · exact k b hb

theorem Bits01.zeros (k : Nat) : Bits01 (List.replicate k 0) := by
  intro b hb
  rw [List.eq_of_mem_replicate hb]
  omega

theorem Bits01.drop {A : List Nat} (h : Bits01 A) (k : Nat) : Bits01 (A.drop k) := fun b hb => h b (List.mem_of_mem_drop hb)
theorem Bits01.take {A : List Nat} (h : Bits01 A) (k : Nat) : Bits01 (A.take k) := fun b hb => h b (List.mem_of_mem_take hb)

/-- The byte at place i, with bits 0 behind the last one. -/
def byteOf (B : List Nat) (i : Nat) : Nat := num ((B.drop (8 * i)).take 8) * 2 ^ (8 - ((B.drop (8 * i)).take 8).length)

/-- The first m bytes. -/
def packN (B : List Nat) (m : Nat) : List Nat := (List.range m).map (byteOf B)

/-- All bytes. -/
def pack (B : List Nat) : List Nat := packN B ((B.length + 7) / 8)

theorem packN_length (B : List Nat) (m : Nat) : (packN B m).length = m := by simp [packN]
theorem pack_length (B : List Nat) : (pack B).length = (B.length + 7) / 8 := by simp [pack, packN]

theorem byteOf_lt (B : List Nat) (h : Bits01 B) (i : Nat) : byteOf B i < 256 := by
  have h1 := num_lt _ ((h.drop (8 * i)).take 8)
  unfold byteOf
  generalize hX : (B.drop (8 * i)).take 8 = X at h1 ⊢
  have hl : X.length ≤ 8 := by rw [← hX]; simp only [List.length_take]; omega
  have : num X * 2 ^ (8 - X.length) < 2 ^ X.length * 2 ^ (8 - X.length) := Nat.mul_lt_mul_of_pos_right h1 (Nat.two_pow_pos _)
  rw [← Nat.pow_add, show X.length + (8 - X.length) = 8 from by omega] at this
  omega

/-- Behind the last bit all bytes are 0. -/
theorem byteOf_past (B : List Nat) (i : Nat) (h : B.length ≤ 8 * i) : byteOf B i = 0 := by
  unfold byteOf
  rw [List.drop_eq_nil_of_le h]
  simp [num]

theorem packN_past (B : List Nat) (m j : Nat) (h : B.length ≤ 8 * m) : packN B (m + j) = packN B m ++ List.replicate j 0 := by
  induction j with
  | zero => simp
  | succ j ih =>
    rw [← Nat.add_assoc, List.replicate_succ', ← List.append_assoc, ← ih]
    unfold packN
    rw [List.range_succ, List.map_append]
    simp [byteOf_past B (m + j) (by omega)]

/-- Bits 0 at the end turn no byte. -/
theorem byteOf_zeros (B : List Nat) (z i : Nat) : byteOf (B ++ List.replicate z 0) i = byteOf B i := by
  by_cases h : B.length ≤ 8 * i
  · rw [byteOf_past B i h]
    unfold byteOf
    rw [List.drop_append, List.drop_eq_nil_of_le h, List.nil_append, List.drop_replicate, List.take_replicate, num_zeros]
    simp
  · unfold byteOf
    have hd : (B ++ List.replicate z 0).drop (8 * i) = B.drop (8 * i) ++ List.replicate z 0 := by
      rw [List.drop_append, show 8 * i - B.length = 0 from by omega, List.drop_zero]
    rw [hd]
    generalize B.drop (8 * i) = X
    rw [List.take_append, List.take_replicate, num_append]
    simp only [List.length_append, List.length_take, List.length_replicate, num_zeros, Nat.add_zero]
    rw [Nat.mul_assoc, ← Nat.pow_add]
    congr 2
    omega

theorem packN_zeros (B : List Nat) (z m : Nat) : packN (B ++ List.replicate z 0) m = packN B m := by
  unfold packN
  exact List.map_congr_left fun i _ => byteOf_zeros B z i

/-- A whole byte is not turned by what comes behind it. -/
theorem byteOf_append (B L : List Nat) (i : Nat) (h : 8 * i + 8 ≤ B.length) : byteOf (B ++ L) i = byteOf B i := by
  unfold byteOf
  have e : ((B ++ L).drop (8 * i)).take 8 = (B.drop (8 * i)).take 8 := by
    rw [List.drop_append, show 8 * i - B.length = 0 from by omega, List.drop_zero, List.take_append]
    simp only [List.length_drop]
    rw [show 8 - (B.length - 8 * i) = 0 from by omega]
    simp
  rw [e]

/-- The last byte, in which there is room for L. -/
theorem byteOf_last (B L : List Nat) (m : Nat) (h1 : 8 * m ≤ B.length) (h2 : B.length + L.length ≤ 8 * m + 8) :
    byteOf (B ++ L) m = byteOf B m + num L * 2 ^ (8 * m + 8 - B.length - L.length) := by
  unfold byteOf
  have e : (B ++ L).drop (8 * m) = B.drop (8 * m) ++ L := by
    rw [List.drop_append, show 8 * m - B.length = 0 from by omega, List.drop_zero]
  have hX : (B.drop (8 * m)).length = B.length - 8 * m := by simp
  rw [e, List.take_of_length_le (by simp only [List.length_append, hX]; omega), List.take_of_length_le (l := B.drop (8 * m)) (by omega)]
  rw [num_append, Nat.add_mul, List.length_append, hX, Nat.mul_assoc, ← Nat.pow_add]
  congr 3 <;> omega

/-- Its old number is a multiple of what L takes. -/
theorem byteOf_room (B : List Nat) (m : Nat) (h1 : 8 * m ≤ B.length) (h2 : B.length ≤ 8 * m + 8) : ∃ q, byteOf B m = q * 2 ^ (8 * m + 8 - B.length) := by
  refine ⟨num (B.drop (8 * m)), ?_⟩
  unfold byteOf
  have hX : (B.drop (8 * m)).length = B.length - 8 * m := by simp
  rw [List.take_of_length_le (by omega), hX]
  congr 2
  omega

theorem packN_step (B L : List Nat) (m : Nat) (h1 : 8 * m ≤ B.length) (h2 : B.length + L.length ≤ 8 * m + 8) :
    packN (B ++ L) (m + 1) = (packN B (m + 1)).set m (byteOf B m + num L * 2 ^ (8 * m + 8 - B.length - L.length)) := by
  apply List.ext_getElem?
  intro j
  rw [List.getElem?_set]
  simp only [packN_length]
  by_cases hj : j = m
  · subst hj
    simp [packN, byteOf_last B L j h1 h2]
  · rw [if_neg (by omega)]
    by_cases hj2 : j < m + 1
    · simp only [packN, List.getElem?_map, List.getElem?_range hj2, Option.map_some]
      rw [byteOf_append B L j (by omega)]
    · simp [packN, List.getElem?_eq_none, hj2]

end Go.Proofs.YtfmpiidnemhijaaDoor
