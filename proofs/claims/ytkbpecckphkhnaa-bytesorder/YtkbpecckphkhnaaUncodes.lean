/- Own text: the walks of 'Uncoded', the program's and the document's. -/
import Derived.Test.YtkbpecckphkhnaaCodes
namespace Go.Proofs.Ytkbpecckphkhnaa
open Go.RowKit
set_option linter.unusedSimpArgs false
set_option linter.unusedVariables false

theorem i64_or_nat (a b : Nat) (ha : a < 9223372036854775808) (hb : b < 9223372036854775808) : bits .or .i64 (a : Int) (b : Int) = ((a ||| b : Nat) : Int) := by
  show IntKind.i64.wrap ((BitVec.ofInt 64 (a : Int) ||| BitVec.ofInt 64 (b : Int)).toNat : Int) = _
  rw [BitVec.toNat_or, BitVec.toNat_ofInt, BitVec.toNat_ofInt]
  have ea : ((a : Int) % ((2 ^ 64 : Nat) : Int)).toNat = a := by omega
  have eb : ((b : Int) % ((2 ^ 64 : Nat) : Int)).toNat = b := by omega
  rw [ea, eb]
  have hl : a ||| b < 2 ^ 63 := Nat.or_lt_two_pow ha hb
  rw [IntKind.wrap_i64]
  omega

theorem xor_head : ∀ b : Fin 256, hc b.val ≠ 0 → bits BinOp.xor IntKind.i64 (b.val : Int) (hm (hc b.val) : Int) = ((b.val - hm (hc b.val) : Nat) : Int) := by decide +kernel
theorem not63 : ∀ b : Fin 256, (bits BinOp.andNot IntKind.u8 (b.val : Int) 63 != 128) = decide (b.val < 128 ∨ 192 ≤ b.val) := by decide +kernel

theorem or_tail (n b : Nat) (hn : n < 68719476736) (hb : b < 256) (h : ¬ (b < 128 ∨ 192 ≤ b)) : bits BinOp.or IntKind.i64 ((n : Int) * 64) ((b : Int) % 64) = ((n * 64 + (b - 128) : Nat) : Int) := by
  have e : (b : Int) % 64 = ((b - 128 : Nat) : Int) := by omega
  have e2 : (n : Int) * 64 = ((n * 64 : Nat) : Int) := by simp
  rw [e, e2, i64_or_nat _ _ (by omega) (by omega), nat_join 6 _ _ (by omega) (by omega)]

theorem getD_byte (s : ByteArray) (i : Nat) (h : i < s.size) : (bytesOf s).getD i 0 = (s[i]'h).toNat := by
  rw [List.getD_eq_getElem?_getD, List.getElem?_eq_getElem (by rw [bytesOf_length]; exact h), bytesOf_get s i h]
  rfl

/-- The three answers of a reading. -/
def triple (u : Nat × Nat × Nat) : Value := .tuple #[.int .i64 (u.1 : Int), .int .i64 (u.2.1 : Int), .int .i64 (u.2.2 : Int)]

theorem uncode_none (l : List Nat) (h : l.length = 0) : uncode l = (0, 0, 10) := by unfold uncode; rw [if_pos h]
theorem uncode_bad (l : List Nat) (h : ¬ l.length = 0) (b : Nat) (hb : l.getD 0 0 = b) (hc0 : hc b = 0) : uncode l = (0, 0, 2) := by unfold uncode; rw [if_neg h, hb, if_pos hc0]
theorem uncode_of (l : List Nat) (h : ¬ l.length = 0) (b k : Nat) (hb : l.getD 0 0 = b) (hk : hc b = k) (hk0 : k ≠ 0) : uncode l = uncEnd k (unc l (k - 1) 1 (b - hm k)) := by
  unfold uncode
  rw [if_neg h, hb, hk, if_neg hk0]

theorem empty_of_size (s : ByteArray) (h : s.size = 0) : s = ⟨#[]⟩ := by
  apply ByteArray.ext
  exact Array.eq_empty_of_size_eq_zero h

theorem not_empty (s : ByteArray) (h : ¬ s.size = 0) : s.toList.isEmpty = false := by
  rw [ByteArray.toList_eq, List.isEmpty_eq_false_iff]
  intro e
  apply h
  have : s.data.toList.length = 0 := by rw [e]; rfl
  rw [Array.length_toList] at this
  exact this

theorem uncEnd_err (k e : Nat) (h : e ≠ 0) : uncEnd k (0, e) = (0, 0, e) := by unfold uncEnd; rw [if_pos h]
theorem uncEnd_long (k n : Nat) (h : clen n < k) : uncEnd k (n, 0) = (0, 0, 2) := by unfold uncEnd; rw [if_neg (by simp), if_pos h]
theorem uncEnd_ok (k n : Nat) (h : ¬ clen n < k) : uncEnd k (n, 0) = (n, k, 0) := by unfold uncEnd; rw [if_neg (by simp), if_neg h]

theorem triple_ret {u v : Nat × Nat × Nat} (h : u = v) : Ending.returned (triple u) = .returned (triple v) := by rw [h]

theorem bound_step (n c m B : Nat) (hc : c < 64) (h : (n + 1) * 64 ^ (m + 1) ≤ B) : (n * 64 + c + 1) * 64 ^ m ≤ B := by
  have h1 : n * 64 + c + 1 ≤ (n + 1) * 64 := by omega
  have h2 : (n * 64 + c + 1) * 64 ^ m ≤ (n + 1) * 64 * 64 ^ m := Nat.mul_le_mul_right _ h1
  have e : (n + 1) * 64 ^ (m + 1) = (n + 1) * 64 * 64 ^ m := by rw [Nat.pow_succ, Nat.mul_comm (64 ^ m), Nat.mul_assoc]
  omega

theorem bound_small (n m k : Nat) (h1 : 1 ≤ k) (h7 : k ≤ 7) (h : (n + 1) * 64 ^ m ≤ cbound k) : n < 68719476736 ∧ n < cbound k := by
  have := cbound_le k h1 h7
  have h2 : n + 1 ≤ (n + 1) * 64 ^ m := Nat.le_mul_of_pos_right _ (Nat.pow_pos (by decide))
  omega

theorem wrap_byte (b : UInt8) : wrap64 (b.toNat : Int) = (b.toNat : Int) := by
  have := UInt8.toNat_lt b
  unfold wrap64
  omega

set_option maxRecDepth 20000 in
set_option maxHeartbeats 1600000 in
theorem uncoded_spec (s : ByteArray) (hs : s.size ≤ 200000000000000) (w : World) :
    Calls Try.prog 13 #[.string s] w fun e w' => e = .returned (triple (uncode (bytesOf s))) ∧ ∃ n, w' = w.drewN n := by
  by_cases h0 : s.size = 0
  · have e := empty_of_size s h0
    subst e
    rw [uncode_none _ rfl]
    go_enter Try.func13, Try.ntmps13
    go_wp2
    go_ret3
    exact ⟨rfl, 0, rfl⟩
  · have hl : ¬ (bytesOf s).length = 0 := by rw [bytesOf_length]; exact h0
    have hp : 0 < s.size := by omega
    have hg := getD_byte s 0 hp
    have hx : (s[0]'hp).toNat < 256 := UInt8.toNat_lt _
    have hem := not_empty s h0
    obtain ⟨b, hb⟩ : ∃ b, b = (s[0]'hp).toNat := ⟨_, rfl⟩
    rw [← hb] at hg hx
    have hcs := headCount_spec b hx w
    have hr7 := hc_range b
    by_cases hk0 : hc b = 0
    · rw [uncode_bad _ hl b hg hk0]
      rw [hk0] at hcs
      rw [hb] at hcs
      clear hg hr7 hk0 hx hb
      go_enter Try.func13, Try.ntmps13
      go_wp2_with fail
      refine hcs.mono ?_
      rintro e w1 ⟨rfl, rfl⟩
      go_wp2
      go_ret3
      exact ⟨rfl, 0, rfl⟩
    · have hf := hc_first b hx hk0
      have hxo := xor_head ⟨b, hx⟩ hk0
      simp only at hxo
      obtain ⟨k, hk⟩ : ∃ k, k = hc b := ⟨_, rfl⟩
      rw [← hk] at hcs hr7 hk0 hf hxo
      rw [uncode_of _ hl b k hg hk.symm hk0]
      have HF : Hid ((b - hm k + 1) * 64 ^ (k - 1) ≤ cbound k) := hf.2
      have hne : ((k : Int) == 0) = false := by simp; omega
      have hmw : ∀ w, Calls Try.prog 31 #[.int .i64 (k : Int)] w fun e w' => e = .returned (.int .i64 (hm k : Int)) ∧ w' = w := fun w => headMark_spec k (by omega) (by omega) w
      generalize b - hm k = n0 at *
      generalize hm k = m0 at *
      rw [hb] at hcs hxo
      clear hg hk hb hf
      go_enter Try.func13, Try.ntmps13
      go_wp2_with fail
      refine hcs.mono ?_
      rintro e w1 ⟨rfl, rfl⟩
      go_wp2
      go_quiet ((go_at_call 31; exact Calls.quiet_of_same (hmw _)))
      go_wp2
      go_loopw [6, 7] (fun x y wr => ∃ (i n : Nat), 1 ≤ i ∧ i ≤ k ∧ i ≤ s.size ∧ (n + 1) * 64 ^ (k - i) ≤ cbound k ∧ unc (bytesOf s) (k - i) i n = unc (bytesOf s) (k - 1) 1 n0 ∧ x = .int .i64 (n : Int) ∧ y = .int .i64 (i : Int) ∧ ∃ nd, wr = w1.drewN nd) (fun _ y _ => k - (intOf y).toNat)
      case atStart => exact ⟨1, n0, by omega, by omega, by omega, HF.out, rfl, by rw [wrap_byte, hxo], rfl, _, rfl⟩
      case round =>
        obtain ⟨i, n, hi1, hik, his, hbn, hun, rfl, rfl, nd, rfl⟩ := hrel
        have hbs := bound_small n (k - i) k (by omega) hr7 hbn
        by_cases hlt : i < k
        · obtain ⟨m, hm⟩ : ∃ m, k - i = m + 1 := ⟨k - i - 1, by omega⟩
          rw [hm] at hun hbn
          by_cases he : i = s.size
          · have hR : uncEnd k (unc (bytesOf s) (k - 1) 1 n0) = (0, 0, 10) := by
              rw [← hun, unc_short _ _ _ _ (by rw [bytesOf_length]; omega), uncEnd_err k 10 (by decide)]
            have HR : Hid _ := hR
            subst he
            clear hun hbn hR hm
            go_wp2
            go_ret3
            exact ⟨by rw [HR.out]; rfl, nd, rfl⟩
          · have hsi : i < s.size := by omega
            have hgi := getD_byte s i hsi
            have hxi : (s[i]'hsi).toNat < 256 := UInt8.toNat_lt _
            have hn63 := not63 ⟨(s[i]'hsi).toNat, hxi⟩
            simp only at hn63
            have hie : ((i : Int) == (s.size : Int)) = false := by simp; omega
            by_cases hbad : (s[i]'hsi).toNat < 128 ∨ 192 ≤ (s[i]'hsi).toNat
            · have hR : uncEnd k (unc (bytesOf s) (k - 1) 1 n0) = (0, 0, 2) := by
                rw [← hun, unc_bad _ _ _ _ (by rw [bytesOf_length]; omega) (by rw [hgi]; exact hbad), uncEnd_err k 2 (by decide)]
              have HR : Hid _ := hR
              rw [decide_eq_true hbad] at hn63
              clear hun hbn hR hm hbad hgi
              go_wp2
              go_ret3
              exact ⟨by rw [HR.out]; rfl, nd, rfl⟩
            · rw [decide_eq_false hbad] at hn63
              have hor := or_tail n _ hbs.1 hxi hbad
              have hst := unc_step (bytesOf s) m i n (by rw [bytesOf_length]; omega) (by rw [hgi]; exact hbad)
              rw [hgi, hun] at hst
              have hbn2 := bound_step n ((s[i]'hsi).toNat - 128) m _ (by omega) hbn
              have HST : Hid _ := hst
              have HBN : Hid _ := hbn2
              have hn2 := hbs.1
              have hge : 128 ≤ (s[i]'hsi).toNat := by omega
              clear hun hbn hbad hgi hst hbn2 hbs
              go_wp2
              go_roundw
              case rel => exact ⟨i + 1, _, by omega, by omega, by omega, by rw [show k - (i + 1) = m from by omega]; exact HBN.out, by rw [show k - (i + 1) = m from by omega]; exact HST.out.symm, by go_num, by go_num, nd, rfl⟩
              case measure => simp [intOf]; omega
        · obtain rfl : i = k := by omega
          rw [Nat.sub_self, unc_end] at hun
          have hcl := codedLen_spec n hbs.1 (w1.drewN nd)
          by_cases hlo : clen n < i
          · have HR : Hid (uncEnd i (unc (bytesOf s) (i - 1) 1 n0) = (0, 0, 2)) := by
              show _ = _
              rw [← hun, uncEnd_long i n hlo]
            clear hun hbn
            go_wp2_with fail
            refine hcl.mono ?_
            rintro e w2 ⟨rfl, rfl⟩
            go_wp2
            go_ret3
            exact ⟨by rw [HR.out]; rfl, nd, rfl⟩
          · have HR : Hid (uncEnd i (unc (bytesOf s) (i - 1) 1 n0) = (n, i, 0)) := by
              show _ = _
              rw [← hun, uncEnd_ok i n hlo]
            clear hun hbn
            go_wp2_with fail
            refine hcl.mono ?_
            rintro e w2 ⟨rfl, rfl⟩
            go_wp2
            go_ret3
            exact ⟨by rw [HR.out]; rfl, nd, rfl⟩

/-- How many bits 1 stand ahead in a byte from 128 on. -/
def lones (c : Nat) : Nat := if c < 192 then 1 else if c < 224 then 2 else if c < 240 then 3 else if c < 248 then 4 else if c < 252 then 5 else if c < 254 then 6 else if c < 255 then 7 else 8

theorem lones_bit : ∀ c : Fin 256, 128 ≤ c.val → ∀ k : Fin 8, k.val ≤ lones c.val → (bits BinOp.and IntKind.i64 (c.val : Int) (128 / 2 ^ k.val) != 0) = decide (k.val < lones c.val) := by decide +kernel
theorem lones_hc : ∀ c : Fin 256, 128 ≤ c.val → (lones c.val = 1 ∧ hc c.val = 0) ∨ (lones c.val = 8 ∧ hc c.val = 0) ∨ (2 ≤ lones c.val ∧ lones c.val ≤ 7 ∧ hc c.val = lones c.val ∧ bits BinOp.and IntKind.i64 (c.val : Int) (127 / 2 ^ lones c.val) = ((c.val - hm (lones c.val) : Nat) : Int)) := by decide +kernel

theorem uncode_one (l : List Nat) (h : ¬ l.length = 0) (b : Nat) (hb : l.getD 0 0 = b) (h1 : b < 128) : uncode l = (b, 1, 0) := by
  have hk : hc b = 1 := by unfold hc; rw [if_pos h1]
  rw [uncode_of l h b 1 hb hk (by decide)]
  have e : b - hm 1 = b := by simp [hm]
  have hcl : clen b = 1 := by unfold clen; rw [if_pos h1]
  rw [e, unc_end, uncEnd_ok 1 b (by omega)]

set_option maxRecDepth 20000 in
set_option maxHeartbeats 1600000 in
theorem refuncoded_spec (s : ByteArray) (hs : s.size ≤ 200000000000000) (w : World) :
    Calls Try.prog 14 #[.string s] w fun e w' => e = .returned (triple (uncode (bytesOf s))) ∧ Below w.heap.size w w' := by
  by_cases h0 : s.size = 0
  · have e := empty_of_size s h0
    subst e
    rw [uncode_none _ rfl]
    go_enter Try.func14, Try.ntmps14
    go_wp2
    go_ret3
    exact ⟨rfl, Below.refl _ _⟩
  · have hl : ¬ (bytesOf s).length = 0 := by rw [bytesOf_length]; exact h0
    have hp : 0 < s.size := by omega
    have hg := getD_byte s 0 hp
    have hx : (s[0]'hp).toNat < 256 := UInt8.toNat_lt _
    have hem := not_empty s h0
    by_cases h128 : (s[0]'hp).toNat < 128
    · rw [uncode_one _ hl _ hg h128]
      clear hg
      go_enter Try.func14, Try.ntmps14
      go_wp2
      go_ret3
      refine ⟨?_, Below.refl _ _⟩
      first | rfl | (rw [wrap_byte]; rfl)
    · have hbit := lones_bit ⟨(s[0]'hp).toNat, hx⟩ (by show 128 ≤ (s[0]'hp).toNat; omega)
      have hlc := lones_hc ⟨(s[0]'hp).toNat, hx⟩ (by show 128 ≤ (s[0]'hp).toNat; omega)
      simp only at hbit hlc
      have hun := uncode_of _ hl _ (lones (s[0]'hp).toNat) hg
      have hbad := uncode_bad _ hl _ hg
      have hfst := hc_first _ hx
      have hl8 : lones (s[0]'hp).toNat ≤ 8 := by unfold lones; (repeat' split) <;> omega
      generalize hu : uncode (bytesOf s) = U at *
      have HU : Hid _ := hu
      clear hg hu
      go_enter Try.func14, Try.ntmps14
      go_wp2
      generalize hcc : (s[0]'hp).toNat = c at *
      clear hcc
      generalize lones c = o at *
      go_loop [6] (fun t => ∃ k : Nat, k ≤ o ∧ t = .int .i64 (k : Int)) (fun t => o - (intOf t).toNat)
      case atStart => exact ⟨0, by omega, rfl⟩
      case round =>
        obtain ⟨k, hk, rfl⟩ := hrel
        by_cases hko : k < o
        · have hb := hbit ⟨k, by omega⟩ (by omega)
          simp only at hb
          rw [decide_eq_true hko] at hb
          clear hbit
          go_wp2
          go_round
          case rel => exact ⟨k + 1, by omega, by go_num⟩
          case measure => simp [intOf]; omega
        · obtain rfl : k = o := by omega
          rcases hlc with ⟨rfl, hz⟩ | ⟨rfl, hz⟩ | ⟨h2, h7, hco, hand⟩
          · have hb := hbit ⟨1, by decide⟩ (by simp)
            simp at hb
            have HR : Hid _ := hbad hz
            clear hbit hun hbad
            go_wp2
            go_ret3
            exact ⟨by rw [HR.out]; rfl, Below.refl _ _⟩
          · have HR : Hid _ := hbad hz
            clear hbit hun hbad
            go_wp2
            go_ret3
            exact ⟨by rw [HR.out]; rfl, Below.refl _ _⟩
          · have hb := hbit ⟨k, by omega⟩ (by simp)
            simp only [Nat.lt_irrefl, decide_false] at hb
            have hU := hun hco (by omega)
            have hF := hfst (by omega)
            rw [hco] at hF
            have HF : Hid ((c - hm k + 1) * 64 ^ (k - 1) ≤ cbound k) := hF.2
            have n1 : ((k : Int) == 1) = false := by simp; omega
            have n8 : ((k : Int) == 8) = false := by simp; omega
            generalize c - hm k = n0 at *
            have HUU : Hid _ := hU
            clear hbit hun hbad hU hF hfst
            go_wp2
            go_loop [7, 8] (fun x y => ∃ (i n : Nat), 1 ≤ i ∧ i ≤ k ∧ i ≤ s.size ∧ (n + 1) * 64 ^ (k - i) ≤ cbound k ∧ unc (bytesOf s) (k - i) i n = unc (bytesOf s) (k - 1) 1 n0 ∧ x = .int .i64 (n : Int) ∧ y = .int .i64 (i : Int)) (fun _ y => k - (intOf y).toNat)
            case atStart => exact ⟨1, n0, by omega, by omega, by omega, HF.out, rfl, by first | rfl | rw [hand], rfl⟩
            case round =>
              obtain ⟨i, n, hi1, hik, his, hbn, hun, rfl, rfl⟩ := hrel
              have hbs := bound_small n (k - i) k (by omega) h7 hbn
              by_cases hlt : i < k
              · obtain ⟨m, hm⟩ : ∃ m, k - i = m + 1 := ⟨k - i - 1, by omega⟩
                rw [hm] at hun hbn
                by_cases he : i = s.size
                · have HR : Hid (U = (0, 0, 10)) := by
                    show _ = _
                    rw [HUU.out, ← hun, unc_short _ _ _ _ (by rw [bytesOf_length]; omega), uncEnd_err k 10 (by decide)]
                  subst he
                  clear hun hbn hm
                  go_wp2
                  go_ret3
                  exact ⟨by rw [HR.out]; rfl, Below.refl _ _⟩
                · have hsi : i < s.size := by omega
                  have hgi := getD_byte s i hsi
                  have hxi : (s[i]'hsi).toNat < 256 := UInt8.toNat_lt _
                  have hie : ((i : Int) == (s.size : Int)) = false := by simp; omega
                  by_cases hb1 : (s[i]'hsi).toNat < 128
                  · have HR : Hid (U = (0, 0, 2)) := by
                      show _ = _
                      rw [HUU.out, ← hun, unc_bad _ _ _ _ (by rw [bytesOf_length]; omega) (by rw [hgi]; exact .inl hb1), uncEnd_err k 2 (by decide)]
                    clear hun hbn hm hgi
                    go_wp2
                    go_ret3
                    exact ⟨by rw [HR.out]; rfl, Below.refl _ _⟩
                  · by_cases hb2 : 192 ≤ (s[i]'hsi).toNat
                    · have HR : Hid (U = (0, 0, 2)) := by
                        show _ = _
                        rw [HUU.out, ← hun, unc_bad _ _ _ _ (by rw [bytesOf_length]; omega) (by rw [hgi]; exact .inr hb2), uncEnd_err k 2 (by decide)]
                      clear hun hbn hm hgi
                      go_wp2
                      go_ret3
                      exact ⟨by rw [HR.out]; rfl, Below.refl _ _⟩
                    · have hst := unc_step (bytesOf s) m i n (by rw [bytesOf_length]; omega) (by rw [hgi]; omega)
                      rw [hgi, hun] at hst
                      have hbn2 := bound_step n ((s[i]'hsi).toNat - 128) m _ (by omega) hbn
                      have HST : Hid _ := hst
                      have HBN : Hid _ := hbn2
                      have hn2 := hbs.1
                      have hge : 128 ≤ (s[i]'hsi).toNat := by omega
                      clear hun hbn hgi hst hbn2 hbs
                      go_wp2
                      go_round
                      case rel => exact ⟨i + 1, _, by omega, by omega, by omega, by rw [show k - (i + 1) = m from by omega]; exact HBN.out, by rw [show k - (i + 1) = m from by omega]; exact HST.out.symm, by go_num, by go_num⟩
                      case measure => simp [intOf]; omega
              · obtain rfl : i = k := by omega
                rw [Nat.sub_self, unc_end] at hun
                have hle := clen_le n i (by omega) h7 hbs.2
                have hcs := refcoded_spec (n : Int) (by omega) (by omega) w
                rw [codT_nat n hbs.1, codE_nat n hbs.1] at hcs
                have hsz : (textOf (codeL n (clen n))).size = clen n := by rw [textOf_size, codeL_length]
                by_cases hlo : clen n < i
                · have HR : Hid (U = (0, 0, 2)) := by
                    show _ = _
                    rw [HUU.out, ← hun, uncEnd_long i n hlo]
                  have hne : ((clen n : Int) == (i : Int)) = false := by simp; omega
                  generalize textOf (codeL n (clen n)) = T at *
                  clear hun hbn
                  go_wp2_with fail
                  refine hcs.mono ?_
                  rintro e w2 ⟨rfl, hB⟩
                  go_wp2
                  go_ret3
                  exact ⟨by rw [HR.out]; rfl, hB⟩
                · have HR : Hid (U = (n, i, 0)) := by
                    show _ = _
                    rw [HUU.out, ← hun, uncEnd_ok i n hlo]
                  have hne : ((clen n : Int) == (i : Int)) = true := by simp; omega
                  generalize textOf (codeL n (clen n)) = T at *
                  clear hun hbn
                  go_wp2_with fail
                  refine hcs.mono ?_
                  rintro e w2 ⟨rfl, hB⟩
                  go_wp2
                  go_ret3
                  exact ⟨by rw [HR.out]; rfl, hB⟩

end Go.Proofs.Ytkbpecckphkhnaa
