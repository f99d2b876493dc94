/- Own text: the document's writer in memory, and the walks of its calls. the walks of both writers' Signed, Unary and Rice. the walks of the document's writer's Signed, Rice and Bytes. what each write answers and adds, as one function for the program's writer and for the document's; the two of them side by side in memory. what a read answers, as plain functions, and the walks of the document's reader. signed numbers and folded ones, there and back: the walks of both readers' Signed, of unfolded and Unfold. the walks of both readers' Rice and Align. the walks of the document's Rice, and of both readers' Align. -/
import Derived.Test.YtkhdkmdiblomhaaG4x
import Derived.Deep.OwnRows
namespace Go.Proofs.Ytkhdkmdiblomhaa
open Go.RowKit
set_option linter.unusedSimpArgs false
set_option linter.unusedVariables false
section
variable {w w' : World} {x : Nat} {ao : Option Addr} {cap : Nat} {B : List Nat}

end

theorem one_new (w : World) (v : Value) (t : TypeId) : ∀ (j : Nat) (u : Value), [v][j]? = some u → (w.alloc (.cells #[v] t)).cell? ((Addr.mk w.heap.size 0 none).add j) = some u := by
  intro j u hj
  match j, hj with
  | 0, hj => simp at hj; subst hj; exact cell_new w _ t

theorem one_int (k : IntKind) (n : Int) : ∀ u ∈ [Value.int k n], u.oneCell' = true := by intro u hu; simp at hu; subst hu; rfl

theorem put_bit (n j : Nat) (hn : n < 18446744073709551616) : bits BinOp.and IntKind.u64 ((n : Int) / 2 ^ j) 1 = ((n / 2 ^ j % 2 : Nat) : Int) := by
  rw [div_cast]
  have hd : n / 2 ^ j ≤ n := Nat.div_le_self _ _
  have := u64_and_nat (n / 2 ^ j) 1 (by omega) (by decide)
  rw [nat_mask1] at this
  exact this

/-- How many bits the document's writer has. -/
def lenOf (w : World) (x : Nat) : Nat := match w.cell? ⟨x, 0, none⟩ with
  | some (.slice _ n _) => n
  | _ => 0

end Go.Proofs.Ytkhdkmdiblomhaa

namespace Go.Proofs.Ytkhdkmdiblomhaa
open Go.RowKit
set_option linter.unusedSimpArgs false
set_option linter.unusedVariables false


/-- Does n fit in k bits, signed? -/
def fitsP (n k : Int) : Prop := 1 ≤ k ∧ k ≤ 64 ∧ -2 ^ (k - 1).toNat ≤ n ∧ n < 2 ^ (k - 1).toNat

/-- n as an unsigned number of 64 bits. -/
def asU (n : Int) : Nat := (n % 18446744073709551616).toNat

theorem asU_lt (n : Int) : asU n < 18446744073709551616 := by unfold asU; omega
theorem asU_wrap (n : Int) : IntKind.u64.wrap n = (asU n : Int) := by rw [IntKind.wrap_u64]; unfold asU; omega

theorem wunary_bad (p : Nat) (n : Int) (hn : n < 0 ∨ 16777216 < n) (w : World) : Calls Try.prog 36 #[.pointer (some ⟨p, 0, none⟩), .int .i64 n] w fun e w' => e = .returned (.int .i64 11) ∧ w' = w := by
  rcases hn with hn | hn
  · go_enter Try.func36, Try.ntmps36
    go_wp2
    go_ret
    exact ⟨rfl, rfl⟩
  · go_enter Try.func36, Try.ntmps36
    go_wp2
    go_ret
    exact ⟨rfl, rfl⟩

theorem wunary_ok (p n : Nat) (hn : n ≤ 16777216) (w : World) (ao : Option Addr) (B : List Nat) (h01 : Bits01 B) (hB : B.length ≤ 9000000000000) (hw : WrB w p ao B) :
    Calls Try.prog 36 #[.pointer (some ⟨p, 0, none⟩), .int .i64 (n : Int)] w fun e w' =>
      e = .returned (.int .i64 0) ∧ ∃ ao', WrB w' p ao' (B ++ List.replicate n 0 ++ [1]) ∧ Stays (foot p ao) w w' ∧ Moved w.heap.size ao ao' := by
  go_enter Try.func36, Try.ntmps36
  go_wp2_with (go_at_call 55; refine (unary_spec p n hn w ao B h01 hB hw).mono ?_; rintro e w' ⟨rfl, ao', h1, h2, h3⟩)
  go_ret
  exact ⟨rfl, ao', h1, h2, h3⟩

theorem wsigned_width (p : Nat) (n k : Int) (hk : k < 1 ∨ 64 < k) (w : World) : Calls Try.prog 56 #[.pointer (some ⟨p, 0, none⟩), .int .i64 n, .int .i64 k] w fun e w' => e = .returned (.int .i64 11) ∧ w' = w := by
  rcases hk with hk | hk
  · go_enter Try.func56, Try.ntmps56
    go_wp2
    go_ret
    exact ⟨rfl, rfl⟩
  · go_enter Try.func56, Try.ntmps56
    go_wp2
    go_ret
    exact ⟨rfl, rfl⟩

theorem sign_div (n : Int) (m : Nat) : (n / 2 ^ m = 0 ↔ 0 ≤ n ∧ n < 2 ^ m) ∧ (n / 2 ^ m = -1 ↔ -2 ^ m ≤ n ∧ n < 0) := by
  have hp : 0 < (2 : Int) ^ m := Int.pow_pos (by decide)
  have h1 := Int.emod_nonneg n (Int.ne_of_gt hp)
  have h2 := Int.emod_lt_of_pos n hp
  have h3 := Int.mul_ediv_add_emod n (2 ^ m)
  generalize (2 : Int) ^ m = A at *
  generalize n % A = r at *
  generalize n / A = q at *
  constructor
  · constructor
    · rintro rfl; simp at h3; omega
    · intro ⟨ha, hb⟩
      rcases Int.lt_trichotomy q 0 with h | h | h
      · have : A * q ≤ A * (-1) := Int.mul_le_mul_of_nonneg_left (by omega) (by omega)
        omega
      · exact h
      · have : A * 1 ≤ A * q := Int.mul_le_mul_of_nonneg_left (by omega) (by omega)
        omega
  · constructor
    · rintro rfl; omega
    · intro ⟨ha, hb⟩
      rcases Int.lt_trichotomy q (-1) with h | h | h
      · have : A * q ≤ A * (-2) := Int.mul_le_mul_of_nonneg_left (by omega) (by omega)
        omega
      · exact h
      · have : A * 0 ≤ A * q := Int.mul_le_mul_of_nonneg_left (by omega) (by omega)
        omega

theorem wsigned_bad (p : Nat) (n : Int) (k : Nat) (h1 : 1 ≤ k) (hk : k ≤ 64) (hb : n < -2 ^ (k - 1) ∨ 2 ^ (k - 1) ≤ n) (w : World) :
    Calls Try.prog 56 #[.pointer (some ⟨p, 0, none⟩), .int .i64 n, .int .i64 (k : Int)] w fun e w' => e = .returned (.int .i64 11) ∧ w' = w := by
  have hd := sign_div n (k - 1)
  have hp : 0 < (2 : Int) ^ (k - 1) := Int.pow_pos (by decide)
  have e0 : (n / 2 ^ (k - 1) != 0) = true := by simp only [bne_iff_ne, ne_eq, hd.1]; omega
  have e1 : (n / 2 ^ (k - 1) != -1) = true := by simp only [bne_iff_ne, ne_eq, hd.2]; omega
  clear hd hp hb
  go_enter Try.func56, Try.ntmps56
  go_wp2
  go_ret
  exact ⟨rfl, rfl⟩

theorem wsigned_ok (p : Nat) (n : Int) (k : Nat) (h1 : 1 ≤ k) (hk : k ≤ 64) (hb1 : -2 ^ (k - 1) ≤ n) (hb2 : n < 2 ^ (k - 1)) (w : World) (ao : Option Addr) (B : List Nat) (h01 : Bits01 B) (hB : B.length ≤ 9000000000000) (hw : WrB w p ao B) :
    Calls Try.prog 56 #[.pointer (some ⟨p, 0, none⟩), .int .i64 n, .int .i64 (k : Int)] w fun e w' =>
      e = .returned (.int .i64 0) ∧ ∃ ao', WrB w' p ao' (B ++ bitsOf (asU n) k) ∧ Stays (foot p ao) w w' ∧ Moved w.heap.size ao ao' := by
  have hd := sign_div n (k - 1)
  have hwr := asU_wrap n
  by_cases hn : 0 ≤ n
  · have e0 : n / 2 ^ (k - 1) = 0 := hd.1.2 ⟨hn, hb2⟩
    clear hd hb1 hb2
    go_enter Try.func56, Try.ntmps56
    go_wp2_with fail
    refine (put_spec p (asU n) k (asU_lt n) hk w ao B h01 (by omega) hw).mono ?_
    rintro e w' ⟨rfl, ao', h1, h2, h3⟩
    go_wp2
    go_ret
    exact ⟨rfl, ao', h1, h2, h3⟩
  · have e0 : n / 2 ^ (k - 1) = -1 := hd.2.2 ⟨hb1, by omega⟩
    clear hd hb1 hb2
    go_enter Try.func56, Try.ntmps56
    go_wp2_with fail
    refine (put_spec p (asU n) k (asU_lt n) hk w ao B h01 (by omega) hw).mono ?_
    rintro e w' ⟨rfl, ao', h1, h2, h3⟩
    go_wp2
    go_ret
    exact ⟨rfl, ao', h1, h2, h3⟩

end Go.Proofs.Ytkhdkmdiblomhaa

namespace Go.Proofs.Ytkhdkmdiblomhaa
open Go.RowKit
set_option linter.unusedSimpArgs false
set_option linter.unusedVariables false


theorem mod_cast2 (a k : Nat) : (a : Int) % 2 ^ k = ((a % 2 ^ k : Nat) : Int) := by simp

theorem packN_grow (B L : List Nat) (m M : Nat) (hM : m < M) (h1 : 8 * m ≤ B.length) (h2 : B.length + L.length ≤ 8 * m + 8) :
    packN (B ++ L) M = (packN B M).set m (byteOf B m + num L * 2 ^ (8 * m + 8 - B.length - L.length)) := by
  apply List.ext_getElem?
  intro j
  rw [List.getElem?_set]
  simp only [packN_length]
  by_cases hj : j = m
  · subst hj
    simp [packN, byteOf_last B L j h1 h2, hM]
  · rw [if_neg (by omega)]
    by_cases hj2 : j < M
    · simp only [packN, List.getElem?_map, List.getElem?_range hj2, Option.map_some]
      by_cases hjm : j < m
      · rw [byteOf_append B L j (by omega)]
      · rw [byteOf_past B j (by omega), byteOf_past (B ++ L) j (by rw [List.length_append]; omega)]
    · simp [packN, hj2]

theorem packN_nil (M : Nat) : packN [] M = List.replicate M 0 := by
  have := packN_past [] 0 M (by simp)
  simpa [packN] using this

theorem bytes_step (B : List Nat) (h01 : Bits01 B) (j b c M v y : Nat) (hj : j < B.length) (hbc : j = 8 * b + c) (hc : c < 8) (hb : b < M) (hv : v = B[j]) (hy : y = byteOf (B.take j) b) :
    packN (B.take (j + 1)) M = (packN (B.take j) M).set b (y + v * 2 ^ (7 - c)) ∧ y + v * 2 ^ (7 - c) < 256 := by
  have ht : B.take (j + 1) = B.take j ++ [v] := by rw [List.take_succ_eq_append_getElem hj, hv]
  have hl : (B.take j).length = j := by rw [List.length_take]; omega
  have e := packN_grow (B.take j) [v] b M hb (by omega) (by simp [hl]; omega)
  have e2 := byteOf_last (B.take j) [v] b (by omega) (by simp [hl]; omega)
  rw [hl, List.length_singleton, show 8 * b + 8 - j - 1 = 7 - c from by omega, show num [v] = v from by simp [num], ← hy] at e e2
  refine ⟨by rw [ht]; exact e, ?_⟩
  rw [← e2, ← ht]
  exact byteOf_lt _ (h01.take _) b

theorem conv_owned {w : World} {ao : Option Addr} {cap : Nat} {bs : List Nat} {n : Nat} (h : w.ownsRow 0 5 1 (.slice ao n cap) n (byteVals bs)) (hn : bs.length = n) :
    (convert 49 9 (.slice ao n cap)).run Try.prog w = .ok (.string (textOf bs)) w := by
  subst hn
  obtain ⟨ao1, cap1, hv, _, _, _, hs⟩ := owns_shape h
  simp only [Value.slice.injEq, true_and] at hv
  obtain ⟨rfl, rfl⟩ := hv
  cases ao with
  | none =>
    have hb : bs = [] := by
      rcases h.2 with ⟨_, h0⟩ | ⟨g, cap', cur, hv, _⟩
      · exact List.eq_nil_of_length_eq_zero h0
      · cases hv
    subst hb
    exact run_convert_bytes_nil w 49 5 Try.underlying49 Try.underlying5 _ _ 9 Try.underlying9
  | some a =>
    obtain ⟨g, rfl⟩ : ∃ g, a = ⟨g, 0, none⟩ := ⟨_, (hs a rfl).1⟩
    rw [textOf_eq]
    refine run_convert_bytes_arg w 49 5 Try.underlying49 Try.underlying5 g 0 bs.length cap _ (by simp) (fun i hi => ?_) 9 Try.underlying9
    rw [Nat.zero_add, h.cellAt i (by omega)]
    simp [byteVals, List.getD, hi]

end Go.Proofs.Ytkhdkmdiblomhaa

namespace Go.Proofs.Ytkhdkmdiblomhaa
open Go.RowKit
set_option linter.unusedSimpArgs false
set_option linter.unusedVariables false


def putE (u k : Int) : Int := if 0 ≤ k ∧ k ≤ 64 ∧ u < 2 ^ k.toNat then 0 else 11
def putB (u k : Int) : List Nat := if 0 ≤ k ∧ k ≤ 64 ∧ u < 2 ^ k.toNat then bitsOf u.toNat k.toNat else []
def sigE (n k : Int) : Int := if 1 ≤ k ∧ k ≤ 64 ∧ -2 ^ (k.toNat - 1) ≤ n ∧ n < 2 ^ (k.toNat - 1) then 0 else 11
def sigB (n k : Int) : List Nat := if 1 ≤ k ∧ k ≤ 64 ∧ -2 ^ (k.toNat - 1) ≤ n ∧ n < 2 ^ (k.toNat - 1) then bitsOf (asU n) k.toNat else []
def unrE (n : Int) : Int := if 0 ≤ n ∧ n ≤ 16777216 then 0 else 11
def unrB (n : Int) : List Nat := if 0 ≤ n ∧ n ≤ 16777216 then List.replicate n.toNat 0 ++ [1] else []
def rcwE (n k : Int) : Int := if 0 ≤ k ∧ k ≤ 30 ∧ foldN n / 2 ^ k.toNat ≤ 16777216 then 0 else 11
def rcwB (n k : Int) : List Nat := if 0 ≤ k ∧ k ≤ 30 ∧ foldN n / 2 ^ k.toNat ≤ 16777216 then List.replicate (foldN n / 2 ^ k.toNat) 0 ++ [1] ++ bitsOf (foldN n) k.toNat else []
def aliB (B : List Nat) : List Nat := List.replicate (8 * ((B.length + 7) / 8) - B.length) 0

theorem Bits01.nil : Bits01 [] := by intro b hb; cases hb
theorem Bits01.one : Bits01 [1] := by intro b hb; simp at hb; omega
theorem putB_01 (u k : Int) : Bits01 (putB u k) := by unfold putB; split; exact bitsOf_01 _ _; exact Bits01.nil
theorem sigB_01 (n k : Int) : Bits01 (sigB n k) := by unfold sigB; split; exact bitsOf_01 _ _; exact Bits01.nil
theorem unrB_01 (n : Int) : Bits01 (unrB n) := by unfold unrB; split; exact (Bits01.zeros _).append Bits01.one; exact Bits01.nil
theorem rcwB_01 (n k : Int) : Bits01 (rcwB n k) := by unfold rcwB; split; exact ((Bits01.zeros _).append Bits01.one).append (bitsOf_01 _ _); exact Bits01.nil
theorem aliB_01 (B : List Nat) : Bits01 (aliB B) := Bits01.zeros _
theorem putB_len (u k : Int) : (putB u k).length ≤ 17000000 := by unfold putB; split; (rw [bitsOf_length]; omega); simp
theorem sigB_len (n k : Int) : (sigB n k).length ≤ 17000000 := by unfold sigB; split; (rw [bitsOf_length]; omega); simp
theorem unrB_len (n : Int) : (unrB n).length ≤ 17000000 := by unfold unrB; split; (rw [List.length_append, List.length_replicate, List.length_singleton]; omega); simp
theorem rcwB_len (n k : Int) : (rcwB n k).length ≤ 17000000 := by
  unfold rcwB
  split
  · rw [List.length_append, List.length_append, List.length_replicate, List.length_singleton, bitsOf_length]; omega
  · simp
theorem aliB_len (B : List Nat) : (aliB B).length ≤ 17000000 := by unfold aliB; rw [List.length_replicate]; omega

section
variable (w : World) (ao : Option Addr) (B : List Nat)

theorem wput_all (p : Nat) (u k : Int) (u1 : 0 ≤ u) (u2 : u ≤ 18446744073709551615) (h01 : Bits01 B) (hB : B.length ≤ 7000000000000) (hw : WrB w p ao B) :
    Calls Try.prog 34 #[.pointer (some ⟨p, 0, none⟩), .int .u64 u, .int .i64 k] w fun e w' => e = .returned (.int .i64 (putE u k)) ∧ ∃ ao', WrB w' p ao' (B ++ putB u k) ∧ Stays (foot p ao) w w' ∧ Moved w.heap.size ao ao' := by
  by_cases h : 0 ≤ k ∧ k ≤ 64 ∧ u < 2 ^ k.toNat
  · unfold putE putB
    rw [if_pos h, if_pos h]
    obtain ⟨j, rfl⟩ : ∃ j : Nat, k = (j : Int) := ⟨k.toNat, by omega⟩
    obtain ⟨v, rfl⟩ : ∃ v : Nat, u = (v : Int) := ⟨u.toNat, by omega⟩
    have hv : v < 2 ^ j := by
      have e := h.2.2
      have e2 : (2 : Int) ^ (j : Int).toNat = ((2 ^ j : Nat) : Int) := by simp
      rw [e2] at e
      omega
    exact put_ok p v j (by omega) hv w ao B h01 (by omega) hw
  · unfold putE putB
    rw [if_neg h, if_neg h]
    refine (put_bad p u k u1 (by omega) (by omega) w).mono ?_
    rintro e w' ⟨rfl, rfl⟩
    exact ⟨rfl, ao, by simpa using hw, Stays.refl _ _, Moved.refl _ _⟩

theorem wsig_all (p : Nat) (n k : Int) (h01 : Bits01 B) (hB : B.length ≤ 7000000000000) (hw : WrB w p ao B) :
    Calls Try.prog 56 #[.pointer (some ⟨p, 0, none⟩), .int .i64 n, .int .i64 k] w fun e w' => e = .returned (.int .i64 (sigE n k)) ∧ ∃ ao', WrB w' p ao' (B ++ sigB n k) ∧ Stays (foot p ao) w w' ∧ Moved w.heap.size ao ao' := by
  by_cases h : 1 ≤ k ∧ k ≤ 64 ∧ -2 ^ (k.toNat - 1) ≤ n ∧ n < 2 ^ (k.toNat - 1)
  · unfold sigE sigB
    rw [if_pos h, if_pos h]
    obtain ⟨j, rfl⟩ : ∃ j : Nat, k = (j : Int) := ⟨k.toNat, by omega⟩
    exact wsigned_ok p n j (by omega) (by omega) h.2.2.1 h.2.2.2 w ao B h01 (by omega) hw
  · unfold sigE sigB
    rw [if_neg h, if_neg h]
    have fin : ∀ (e : Ending) (w' : World), e = .returned (.int .i64 11) ∧ w' = w → e = .returned (.int .i64 11) ∧ ∃ ao', WrB w' p ao' (B ++ []) ∧ Stays (foot p ao) w w' ∧ Moved w.heap.size ao ao' := by
      rintro e w' ⟨rfl, rfl⟩
      exact ⟨rfl, ao, by simpa using hw, Stays.refl _ _, Moved.refl _ _⟩
    by_cases hk : k < 1 ∨ 64 < k
    · exact (wsigned_width p n k hk w).mono fin
    · obtain ⟨j, rfl⟩ : ∃ j : Nat, k = (j : Int) := ⟨k.toNat, by omega⟩
      rw [Int.toNat_natCast] at h
      exact (wsigned_bad p n j (by omega) (by omega) (by omega) w).mono fin

theorem wunr_all (p : Nat) (n : Int) (h01 : Bits01 B) (hB : B.length ≤ 7000000000000) (hw : WrB w p ao B) :
    Calls Try.prog 36 #[.pointer (some ⟨p, 0, none⟩), .int .i64 n] w fun e w' => e = .returned (.int .i64 (unrE n)) ∧ ∃ ao', WrB w' p ao' (B ++ unrB n) ∧ Stays (foot p ao) w w' ∧ Moved w.heap.size ao ao' := by
  by_cases h : 0 ≤ n ∧ n ≤ 16777216
  · unfold unrE unrB
    rw [if_pos h, if_pos h, ← List.append_assoc]
    obtain ⟨j, rfl⟩ : ∃ j : Nat, n = (j : Int) := ⟨n.toNat, by omega⟩
    exact wunary_ok p j (by omega) w ao B h01 (by omega) hw
  · unfold unrE unrB
    rw [if_neg h, if_neg h]
    refine (wunary_bad p n (by omega) w).mono ?_
    rintro e w' ⟨rfl, rfl⟩
    exact ⟨rfl, ao, by simpa using hw, Stays.refl _ _, Moved.refl _ _⟩

theorem wric_all (p : Nat) (n k : Int) (n1 : -9223372036854775808 ≤ n) (n2 : n ≤ 9223372036854775807) (h01 : Bits01 B) (hB : B.length ≤ 7000000000000) (hw : WrB w p ao B) :
    Calls Try.prog 81 #[.pointer (some ⟨p, 0, none⟩), .int .i64 n, .int .i64 k] w fun e w' => e = .returned (.int .i64 (rcwE n k)) ∧ ∃ ao', WrB w' p ao' (B ++ rcwB n k) ∧ Stays (foot p ao) w w' ∧ Moved w.heap.size ao ao' := by
  by_cases h : 0 ≤ k ∧ k ≤ 30 ∧ foldN n / 2 ^ k.toNat ≤ 16777216
  · unfold rcwE rcwB
    rw [if_pos h, if_pos h, ← List.append_assoc, ← List.append_assoc]
    obtain ⟨j, rfl⟩ : ∃ j : Nat, k = (j : Int) := ⟨k.toNat, by omega⟩
    exact rice_ok p n n1 n2 j (by omega) h.2.2 w ao B h01 (by omega) hw
  · unfold rcwE rcwB
    rw [if_neg h, if_neg h]
    have fin : ∀ (e : Ending) (w' : World), e = .returned (.int .i64 11) ∧ w' = w → e = .returned (.int .i64 11) ∧ ∃ ao', WrB w' p ao' (B ++ []) ∧ Stays (foot p ao) w w' ∧ Moved w.heap.size ao ao' := by
      rintro e w' ⟨rfl, rfl⟩
      exact ⟨rfl, ao, by simpa using hw, Stays.refl _ _, Moved.refl _ _⟩
    by_cases hk : k < 0 ∨ 30 < k
    · exact (rice_width p n k hk w).mono fin
    · obtain ⟨j, rfl⟩ : ∃ j : Nat, k = (j : Int) := ⟨k.toNat, by omega⟩
      rw [Int.toNat_natCast] at h
      exact (rice_long p n n1 n2 j (by omega) (by omega) w).mono fin

end

section
variable {N : Nat} {w0 w w' : World} {p x : Nat} {ao bo ao' bo' : Option Addr} {B1 B2 B1' B2' : List Nat}

end
end Go.Proofs.Ytkhdkmdiblomhaa

namespace Go.Proofs.Ytkhdkmdiblomhaa
open Go.RowKit
set_option linter.unusedSimpArgs false
set_option linter.unusedVariables false
section
variable {w : World} {x : Nat} {s : ByteArray} {at_ : Nat}
end

theorem i64_and1 (n : Int) : bits BinOp.and IntKind.i64 n 1 = n % 2 := by
  show IntKind.i64.wrap ((BitVec.ofInt 64 n &&& BitVec.ofInt 64 1).toNat : Int) = _
  rw [BitVec.toNat_and, BitVec.toNat_ofInt, show (BitVec.ofInt 64 1).toNat = 2 ^ 1 - 1 from rfl, Nat.and_two_pow_sub_one_eq_mod, IntKind.wrap_i64]
  omega

theorem bitsAt_lt2 (s : ByteArray) (at_ : Nat) : bitsAt s at_ 1 < 2 := bitsAt_lt s at_ 1

theorem bit_val (y c : Nat) (hy : y < 256) : bits BinOp.and IntKind.i64 (wrap64 ((y : Int) / 2 ^ c)) 1 = ((y / 2 ^ c % 2 ^ 1 : Nat) : Int) := by
  have hd : y / 2 ^ c ≤ y := Nat.div_le_self _ _
  rw [i64_and1, div_cast]
  generalize y / 2 ^ c = z at *
  unfold wrap64
  omega

/-- The bit at the place, or what lies behind it. -/
theorem lead_step (s : ByteArray) (at_ : Nat) (h : at_ < 8 * s.size) : lead (ahead s at_) = if bitsAt s at_ 1 = 0 then 1 + lead (ahead s (at_ + 1)) else 0 := by
  have hl : at_ < (sbits (bytesOf s)).length := by rw [sbits_length, bytesOf_length]; exact h
  have e : ahead s at_ = (sbits (bytesOf s))[at_] :: ahead s (at_ + 1) := by
    unfold ahead
    exact List.drop_eq_getElem_cons hl
  have eb : bitsAt s at_ 1 = (sbits (bytesOf s))[at_] := by
    unfold bitsAt
    rw [List.drop_eq_getElem_cons hl, List.take_succ_cons, List.take_zero, num_cons, num_nil]
    simp
  rw [e, lead_cons, eb]

end Go.Proofs.Ytkhdkmdiblomhaa

namespace Go.Proofs.Ytkhdkmdiblomhaa
open Go.RowKit
set_option linter.unusedSimpArgs false
set_option linter.unusedVariables false


/-- The number whose folded one u is. -/
def unfoldN (u : Nat) : Int := if u % 2 = 0 then ((u / 2 : Nat) : Int) else -((u / 2 : Nat) : Int) - 1

theorem u64_and1 (u : Nat) (hu : u < 18446744073709551616) : bits BinOp.and IntKind.u64 (u : Int) 1 = ((u % 2 : Nat) : Int) := by
  have := u64_and_nat u 1 hu (by decide)
  rw [nat_mask1] at this
  exact this

theorem i64_xor0 (x : Int) (h1 : -9223372036854775808 ≤ x) (h2 : x ≤ 9223372036854775807) : bits BinOp.xor IntKind.i64 x 0 = x := by
  show IntKind.i64.wrap ((BitVec.ofInt 64 x ^^^ BitVec.ofInt 64 0).toNat : Int) = _
  rw [BitVec.toNat_xor, BitVec.toNat_ofInt, show (BitVec.ofInt 64 0).toNat = 0 from rfl, Nat.xor_zero, IntKind.wrap_i64]
  omega

theorem i64_xor1 (x : Int) (h1 : -9223372036854775808 ≤ x) (h2 : x ≤ 9223372036854775807) : bits BinOp.xor IntKind.i64 x (-1) = -x - 1 := by
  show IntKind.i64.wrap ((BitVec.ofInt 64 x ^^^ BitVec.ofInt 64 (-1)).toNat : Int) = _
  rw [BitVec.toNat_xor, BitVec.toNat_ofInt, show (BitVec.ofInt 64 (-1)).toNat = 18446744073709551615 from rfl, xor_ones _ (by omega), IntKind.wrap_i64]
  omega

theorem unfolded_spec (u : Nat) (hu : u < 18446744073709551616) (w : World) : Calls Try.prog 101 #[.int .u64 (u : Int)] w fun e w' => e = .returned (.int .i64 (unfoldN u)) ∧ w' = w := by
  have ha := u64_and1 u hu
  by_cases h0 : u % 2 = 0
  · rw [h0] at ha
    go_enter Try.func101, Try.ntmps101
    go_wp2
    go_ret
    refine ⟨ret_int ?_, rfl⟩
    have := i64_xor0 ((u / 2 : Nat) : Int) (by omega) (by omega)
    unfold unfoldN
    rw [if_pos h0]
    simpa using this
  · have h1 : u % 2 = 1 := by omega
    rw [h1] at ha
    go_enter Try.func101, Try.ntmps101
    go_wp2
    go_ret
    refine ⟨ret_int ?_, rfl⟩
    have := i64_xor1 ((u / 2 : Nat) : Int) (by omega) (by omega)
    unfold unfoldN
    rw [if_neg h0]
    simpa using this

/-- Two's complement of k bits. -/
def sgn (u k : Nat) : Int := if 2 ^ (k - 1) ≤ u then (u : Int) - 2 ^ k else (u : Int)

theorem ret_pair {k l : IntKind} {a b c : Int} (h : a = b) : Ending.returned (.tuple #[.int k a, .int l c]) = .returned (.tuple #[.int k b, .int l c]) := by rw [h]

theorem sgn_code (u k : Nat) (h1 : 1 ≤ k) (h2 : k ≤ 64) (hu : u < 2 ^ k) : wrap64 (IntKind.u64.wrap ((u : Int) * 2 ^ (64 - k))) / 2 ^ (64 - k) = sgn u k := by
  obtain ⟨A, hA⟩ : ∃ A, A = (2 : Nat) ^ (64 - k) := ⟨_, rfl⟩
  obtain ⟨H, hH⟩ : ∃ H, H = (2 : Nat) ^ (k - 1) := ⟨_, rfl⟩
  have hA0 : 0 < A := by rw [hA]; exact Nat.two_pow_pos _
  have hHA : H * A = 9223372036854775808 := by rw [hA, hH, ← Nat.pow_add, show k - 1 + (64 - k) = 63 from by omega]
  have hk : (2 : Nat) ^ k = 2 * H := by rw [hH, ← Nat.pow_succ', show (k - 1).succ = k from by omega]
  have ei : (2 : Int) ^ (64 - k) = (A : Int) := by rw [hA]; simp
  have ek : (2 : Int) ^ k = ((2 * H : Nat) : Int) := by rw [← hk]; simp
  have eu : (u : Int) * (A : Int) = ((u * A : Nat) : Int) := by simp
  have hub : u * A < (2 * H) * A := Nat.mul_lt_mul_of_pos_right (by omega) hA0
  rw [Nat.mul_assoc, hHA] at hub
  unfold sgn
  rw [ei, ek, eu, IntKind.wrap_u64, ← hH]
  by_cases hh : H ≤ u
  · rw [if_pos hh]
    have hge : H * A ≤ u * A := Nat.mul_le_mul_right _ hh
    have e1 : wrap64 (((u * A : Nat) : Int) % 18446744073709551616) = ((u : Int) - ((2 * H : Nat) : Int)) * (A : Int) := by
      have e2 : ((u : Int) - ((2 * H : Nat) : Int)) * (A : Int) = ((u * A : Nat) : Int) - ((2 * (H * A) : Nat) : Int) := by
        rw [Int.sub_mul, eu, ← Nat.mul_assoc]
        simp
      rw [e2, hHA]
      unfold wrap64
      omega
    rw [e1, Int.mul_ediv_cancel _ (by omega)]
  · rw [if_neg hh]
    have hlt : u * A < H * A := Nat.mul_lt_mul_of_pos_right (by omega) hA0
    have e1 : wrap64 (((u * A : Nat) : Int) % 18446744073709551616) = (u : Int) * (A : Int) := by
      rw [eu]
      unfold wrap64
      omega
    rw [e1, Int.mul_ediv_cancel _ (by omega)]

theorem sgn_half (u k : Nat) (h1 : 1 ≤ k) (hu : u < 2 ^ k) : (u : Int) / 2 ^ (k - 1) = if 2 ^ (k - 1) ≤ u then 1 else 0 := by
  have hk : (2 : Nat) ^ k = 2 * 2 ^ (k - 1) := by rw [← Nat.pow_succ', show (k - 1).succ = k from by omega]
  rw [div_cast]
  obtain ⟨H, hH⟩ : ∃ H, H = (2 : Nat) ^ (k - 1) := ⟨_, rfl⟩
  have h0 : 0 < H := by rw [hH]; exact Nat.two_pow_pos _
  rw [← hH] at hk ⊢
  by_cases h : H ≤ u
  · rw [if_pos h, Nat.div_eq_of_lt_le (k := 1) (by omega) (by omega)]; rfl
  · rw [if_neg h, Nat.div_eq_of_lt (by omega)]; rfl

theorem signed_width (q : Nat) (k : Int) (hk : k < 1 ∨ 64 < k) (w : World) : Calls Try.prog 66 #[.pointer (some ⟨q, 0, none⟩), .int .i64 k] w fun e w' => e = .returned (.tuple #[.int .i64 0, .int .i64 11]) ∧ w' = w := by
  rcases hk with hk | hk
  · go_enter Try.func66, Try.ntmps66
    go_wp2
    go_ret2
    exact ⟨rfl, rfl⟩
  · go_enter Try.func66, Try.ntmps66
    go_wp2
    go_ret2
    exact ⟨rfl, rfl⟩

theorem signed_end (q : Nat) (s : ByteArray) (hs : s.size ≤ 1000000000000000000) (at_ : Nat) (ha : at_ ≤ 8 * s.size) (k : Nat) (h1 : 1 ≤ k) (hk : k ≤ 64) (he : 8 * s.size < at_ + k) (w : World) (h : Rd w q s at_) :
    Calls Try.prog 66 #[.pointer (some ⟨q, 0, none⟩), .int .i64 (k : Int)] w fun e w' => e = .returned (.tuple #[.int .i64 0, .int .i64 10]) ∧ ∃ n, w' = w.drewN n := by
  go_enter Try.func66, Try.ntmps66
  go_wp2_with (go_at_call 17; refine (get_end q s hs at_ ha k hk he _ h).mono ?_; rintro e w' ⟨rfl, n1, rfl⟩)
  go_ret2
  exact ⟨rfl, _, rfl⟩

theorem signed_ok (q : Nat) (s : ByteArray) (hs : s.size ≤ 1000000000000000000) (at_ : Nat) (k : Nat) (h1 : 1 ≤ k) (hk : k ≤ 64) (he : at_ + k ≤ 8 * s.size) (w : World) (h : Rd w q s at_) :
    Calls Try.prog 66 #[.pointer (some ⟨q, 0, none⟩), .int .i64 (k : Int)] w fun e w' => e = .returned (.tuple #[.int .i64 (sgn (bitsAt s at_ k) k), .int .i64 0]) ∧ Rd w' q s (at_ + k) ∧ Stays (only q) w w' := by
  go_enter Try.func66, Try.ntmps66
  go_wp2_with (go_at_call 17; refine (get_ok q s hs at_ k hk he _ h).mono ?_; rintro e w2 ⟨rfl, hR2, hS2⟩)
  go_ret2
  exact ⟨ret_pair (sgn_code _ k h1 hk (bitsAt_lt s at_ k)), hR2, hS2⟩

end Go.Proofs.Ytkhdkmdiblomhaa

namespace Go.Proofs.Ytkhdkmdiblomhaa
open Go.RowKit
set_option linter.unusedSimpArgs false
set_option linter.unusedVariables false


theorem or_low (z low k : Nat) (hz : z ≤ 16777216) (hk : k ≤ 30) (hl : low < 2 ^ k) :
    bits BinOp.or IntKind.u64 (IntKind.u64.wrap ((z : Int) * 2 ^ k)) (low : Int) = ((z * 2 ^ k + low : Nat) : Int) ∧ z * 2 ^ k + low < 18446744073709551616 := by
  have h30 : (2 : Nat) ^ k ≤ 2 ^ 30 := pow_le_of k 30 hk
  have hm : z * 2 ^ k ≤ 16777216 * 2 ^ 30 := Nat.mul_le_mul hz h30
  have e : IntKind.u64.wrap ((z : Int) * 2 ^ k) = ((z * 2 ^ k : Nat) : Int) := by
    have e1 : (z : Int) * 2 ^ k = ((z * 2 ^ k : Nat) : Int) := by simp
    rw [IntKind.wrap_u64, e1]
    omega
  exact ⟨by rw [e, u64_or_nat _ _ (by omega) (by omega), nat_join k _ _ (by simp) hl], by omega⟩

theorem rrice_width (q : Nat) (k : Int) (hk : k < 0 ∨ 30 < k) (w : World) : Calls Try.prog 100 #[.pointer (some ⟨q, 0, none⟩), .int .i64 k] w fun e w' => e = .returned (.tuple #[.int .i64 0, .int .i64 11]) ∧ w' = w := by
  rcases hk with hk | hk
  · go_enter Try.func100, Try.ntmps100
    go_wp2
    go_ret2
    exact ⟨rfl, rfl⟩
  · go_enter Try.func100, Try.ntmps100
    go_wp2
    go_ret2
    exact ⟨rfl, rfl⟩

theorem below_only {q : Nat} {w w' : World} (h : Below w.heap.size w w') : Stays (only q) w w' := Stays.of_below h _

set_option maxHeartbeats 800000 in
theorem rrice_uerr (q : Nat) (s : ByteArray) (hs : s.size ≤ 1000000000000000000) (at_ : Nat) (ha : at_ ≤ 8 * s.size) (k : Nat) (hk : k ≤ 30) (hl : 16777216 < lead (ahead s at_)) (w : World) (h : Rd w q s at_) :
    Calls Try.prog 100 #[.pointer (some ⟨q, 0, none⟩), .int .i64 (k : Int)] w fun e w' => e = .returned (.tuple #[.int .i64 0, .int .i64 11]) ∧ Rd w' q s at_ ∧ Stays (only q) w w' := by
  have c0 := h.c0
  have c1 := h.c1
  go_enter Try.func100, Try.ntmps100
  go_wp2_with fail
  have hB1 : Below w.heap.size w (w.alloc (.cells #[.int .i64 (at_ : Int), .int .i64 (8 * (s.size : Int))] 58)) := (Below.refl _ _).alloc (Nat.le_refl _) _
  have hR1 : Rd (w.alloc (.cells #[.int .i64 (at_ : Int), .int .i64 (8 * (s.size : Int))] 58)) q s at_ := h.below hB1
  refine (runary_width q s hs at_ ha hl _ hR1).mono ?_
  rintro e w2 ⟨rfl, n1, rfl⟩
  go_wp2
  go_ret2
  exact ⟨rfl, hR1, (below_only hB1).drewN _⟩

set_option maxHeartbeats 800000 in
theorem rrice_uend (q : Nat) (s : ByteArray) (hs : s.size ≤ 1000000000000000000) (at_ : Nat) (ha : at_ ≤ 8 * s.size) (k : Nat) (hk : k ≤ 30) (hl : lead (ahead s at_) ≤ 16777216) (he : lead (ahead s at_) = 8 * s.size - at_) (w : World) (h : Rd w q s at_) :
    Calls Try.prog 100 #[.pointer (some ⟨q, 0, none⟩), .int .i64 (k : Int)] w fun e w' => e = .returned (.tuple #[.int .i64 0, .int .i64 10]) ∧ Rd w' q s at_ ∧ Stays (only q) w w' := by
  have HL : Hid _ := hl
  have HE : Hid _ := he
  clear hl he
  have c0 := h.c0
  have c1 := h.c1
  go_enter Try.func100, Try.ntmps100
  go_wp2_with fail
  have hB1 : Below w.heap.size w (w.alloc (.cells #[.int .i64 (at_ : Int), .int .i64 (8 * (s.size : Int))] 58)) := (Below.refl _ _).alloc (Nat.le_refl _) _
  have hR1 : Rd (w.alloc (.cells #[.int .i64 (at_ : Int), .int .i64 (8 * (s.size : Int))] 58)) q s at_ := h.below hB1
  refine (runary_end q s hs at_ ha HL.out HE.out _ hR1).mono ?_
  rintro e w2 ⟨rfl, n1, rfl⟩
  go_wp2
  go_ret2
  exact ⟨rfl, hR1, (below_only hB1).drewN _⟩

set_option maxHeartbeats 800000 in
theorem rrice_gend (q : Nat) (s : ByteArray) (hs : s.size ≤ 1000000000000000000) (at_ : Nat) (ha : at_ ≤ 8 * s.size) (k : Nat) (hk : k ≤ 30) (z : Nat) (hz : lead (ahead s at_) = z) (hl : z ≤ 16777216) (hzr : z < 8 * s.size - at_) (he : 8 * s.size < at_ + z + 1 + k) (w : World) (h : Rd w q s at_) :
    Calls Try.prog 100 #[.pointer (some ⟨q, 0, none⟩), .int .i64 (k : Int)] w fun e w' => e = .returned (.tuple #[.int .i64 0, .int .i64 10]) ∧ Rd w' q s at_ ∧ Stays (only q) w w' := by
  have HZ : Hid _ := hz
  clear hz
  have c0 := h.c0
  have c1 := h.c1
  go_enter Try.func100, Try.ntmps100
  go_wp2_with fail
  have hB1 : Below w.heap.size w (w.alloc (.cells #[.int .i64 (at_ : Int), .int .i64 (8 * (s.size : Int))] 58)) := (Below.refl _ _).alloc (Nat.le_refl _) _
  have hR1 : Rd (w.alloc (.cells #[.int .i64 (at_ : Int), .int .i64 (8 * (s.size : Int))] 58)) q s at_ := h.below hB1
  refine (runary_ok q s hs at_ ha z HZ.out hl hzr _ hR1).mono ?_
  rintro e w2 ⟨rfl, hR2, hS2⟩
  have hq := h.lt
  have a0 : w2.cell? ⟨w.heap.size, 0, none⟩ = some (.int .i64 (at_ : Int)) := by
    rw [World.cell?_of_block (w := w.alloc (.cells #[.int .i64 (at_ : Int), .int .i64 (8 * (s.size : Int))] 58)) (hS2.block w.heap.size (by simp) (fun e => by have : w.heap.size = q := e; omega))]
    simp only [World.cell?, heap_alloc_new]
    rfl
  have a1 : w2.cell? ⟨w.heap.size, 1, none⟩ = some (.int .i64 (8 * (s.size : Int))) := by
    rw [World.cell?_of_block (w := w.alloc (.cells #[.int .i64 (at_ : Int), .int .i64 (8 * (s.size : Int))] 58)) (hS2.block w.heap.size (by simp) (fun e => by have : w.heap.size = q := e; omega))]
    simp only [World.cell?, heap_alloc_new]
    rfl
  have d0 := hR2.c0
  have d1 := hR2.c1
  have g0 := hR2.f 0
  have g1 := hR2.f 1
  have HS : Hid (Stays (only q) w w2) := (below_only hB1).trans hS2 (fun _ _ h => h)
  clear hB1 hR1 hS2 c0 c1
  go_wp2_with fail
  refine (get_end q s hs (at_ + z + 1) (by omega) k (by omega) he _ hR2).mono ?_
  rintro e w3 ⟨rfl, n1, rfl⟩
  go_wp2
  go_ret2
  refine ⟨rfl, ?_, (((HS.out).drewN _).setCell ⟨q, 0, none⟩ _ (.inl rfl)).setCell ⟨q, 1, none⟩ _ (.inl rfl)⟩
  have hx := (hR2.drewN n1).set at_
  unfold Rd at hx ⊢
  rw [block_setCell _ q 1 _ _ _ hx]
  rfl

set_option maxHeartbeats 800000 in
theorem rrice_ok (q : Nat) (s : ByteArray) (hs : s.size ≤ 1000000000000000000) (at_ : Nat) (ha : at_ ≤ 8 * s.size) (k : Nat) (hk : k ≤ 30) (z : Nat) (hz : lead (ahead s at_) = z) (hl : z ≤ 16777216) (he : at_ + z + 1 + k ≤ 8 * s.size) (w : World) (h : Rd w q s at_) :
    Calls Try.prog 100 #[.pointer (some ⟨q, 0, none⟩), .int .i64 (k : Int)] w fun e w' => e = .returned (.tuple #[.int .i64 (unfoldN (z * 2 ^ k + bitsAt s (at_ + z + 1) k)), .int .i64 0]) ∧ Rd w' q s (at_ + z + 1 + k) ∧ Stays (only q) w w' := by
  have HZ : Hid _ := hz
  clear hz
  have c0 := h.c0
  have c1 := h.c1
  go_enter Try.func100, Try.ntmps100
  go_wp2_with fail
  have hB1 : Below w.heap.size w (w.alloc (.cells #[.int .i64 (at_ : Int), .int .i64 (8 * (s.size : Int))] 58)) := (Below.refl _ _).alloc (Nat.le_refl _) _
  have hR1 : Rd (w.alloc (.cells #[.int .i64 (at_ : Int), .int .i64 (8 * (s.size : Int))] 58)) q s at_ := h.below hB1
  refine (runary_ok q s hs at_ ha z HZ.out hl (by omega) _ hR1).mono ?_
  rintro e w2 ⟨rfl, hR2, hS2⟩
  have HS : Hid (Stays (only q) w w2) := (below_only hB1).trans hS2 (fun _ _ h => h)
  clear hB1 hR1 hS2 c0 c1
  go_wp2_with fail
  refine (get_ok q s hs (at_ + z + 1) k (by omega) he _ hR2).mono ?_
  rintro e w3 ⟨rfl, hR3, hS3⟩
  have HO : Hid _ := or_low z (bitsAt s (at_ + z + 1) k) k hl hk (bitsAt_lt s _ k)
  go_wp2_with fail
  rw [HO.out.1]
  refine (unfolded_spec _ HO.out.2 _).mono ?_
  rintro e w4 ⟨rfl, rfl⟩
  go_wp2
  go_ret2
  exact ⟨rfl, hR3, HS.out.trans hS3 (fun _ _ h => h)⟩
end Go.Proofs.Ytkhdkmdiblomhaa

namespace Go.Proofs.Ytkhdkmdiblomhaa
open Go.RowKit
set_option linter.unusedSimpArgs false
set_option linter.unusedVariables false
theorem plus_low (z low k : Nat) (hz : z ≤ 16777216) (hk : k ≤ 30) (hl : low < 2 ^ k) :
    IntKind.u64.wrap (IntKind.u64.wrap ((z : Int) * 2 ^ k) + (low : Int)) = ((z * 2 ^ k + low : Nat) : Int) := by
  have h30 : (2 : Nat) ^ k ≤ 2 ^ 30 := pow_le_of k 30 hk
  have hm : z * 2 ^ k ≤ 16777216 * 2 ^ 30 := Nat.mul_le_mul hz h30
  have e1 : (z : Int) * 2 ^ k = ((z * 2 ^ k : Nat) : Int) := by simp
  rw [IntKind.wrap_u64, IntKind.wrap_u64, e1]
  omega

/-- How many bits there are to a whole byte. -/
def padOf (at_ : Nat) : Nat := (8 - at_ % 8) % 8

/-- Where the document's reader stands. -/
def atOf (w : World) (x : Nat) : Nat := match w.cell? ⟨x, 1, none⟩ with
  | some (.int _ n) => n.toNat
  | _ => 0

end Go.Proofs.Ytkhdkmdiblomhaa
