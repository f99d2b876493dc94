/- Own text. -/
import Derived.Test.YtfpfabmbipmipaaGreatDoorK0
import Derived.Test.YtfpfabmbipmipaaGreatDoorA32
import Derived.Test.YtfpfabmbipmipaaGreatDoorA6
import Derived.Test.YtfpfabmbipmipaaGreatDoorA13
set_option linter.unusedSimpArgs false
set_option linter.unusedVariables false
set_option maxRecDepth 20000
set_option maxHeartbeats 12800000
namespace Go.Proofs.YtfpfabmbipmipaaGreatDoor
open Go.RowKit
namespace S2
theorem i64_or_nat (a b : Nat) (ha : a < 9223372036854775808) (hb : b < 9223372036854775808) : bits .or .i64 (a : Int) (b : Int) = ((a ||| b : Nat) : Int) := by
 show IntKind.i64.wrap ((BitVec.ofInt 64 (a : Int) ||| BitVec.ofInt 64 (b : Int)).toNat : Int) = _
 rw [BitVec.toNat_or, BitVec.toNat_ofInt, BitVec.toNat_ofInt]
 have ea : ((a : Int) % ((2 ^ 64 : Nat) : Int)).toNat = a := by omega
 have eb : ((b : Int) % ((2 ^ 64 : Nat) : Int)).toNat = b := by omega
 rw [ea, eb]
 have hl : a ||| b < 2 ^ 63 := Nat.or_lt_two_pow ha hb
 rw [IntKind.wrap_i64]
 omega
theorem xor_head : ∀ b : Fin 256, hc b.val ≠ 0 -> bits BinOp.xor IntKind.i64 (b.val : Int) (hm (hc b.val) : Int) = ((b.val - hm (hc b.val) : Nat) : Int) := by decide +kernel
theorem not63 : ∀ b : Fin 256, (bits BinOp.andNot IntKind.u8 (b.val : Int) 63 != 128) = decide (b.val < 128 ∨ 192 <= b.val) := by decide +kernel
theorem or_tail (n b : Nat) (hn : n < 68719476736) (hb : b < 256) (h : ¬ (b < 128 ∨ 192 <= b)) : bits BinOp.or IntKind.i64 ((n : Int) * 64) ((b : Int) % 64) = ((n * 64 + (b - 128) : Nat) : Int) := by
 have e : (b : Int) % 64 = ((b - 128 : Nat) : Int) := by omega
 have e2 : (n : Int) * 64 = ((n * 64 : Nat) : Int) := by simp
 rw [e, e2, i64_or_nat _ _ (by omega) (by omega), nat_join 6 _ _ (by omega) (by omega)]
theorem getD_byte (s : ByteArray) (i : Nat) (h : i < s.size) : (bytesOf s).getD i 0 = (s[i]'h).toNat := by
 rw [List.getD_eq_getElem?_getD, List.getElem?_eq_getElem (by rw [bytesOf_length]; exact h), bytesOf_get s i h]
 rfl
def triple (u : Nat × Nat × Nat) : Value := .tuple #[.int .i64 (u.1 : Int), .int .i64 (u.2.1 : Int), .int .i64 (u.2.2 : Int)]
theorem uncode_none (l : List Nat) (h : l.length = 0) : uncode l = (0, 0, 10) := by unfold uncode; rw [if_pos h]
theorem uncode_bad (l : List Nat) (h : ¬ l.length = 0) (b : Nat) (hb : l.getD 0 0 = b) (hc0 : hc b = 0) : uncode l = (0, 0, 2) := by unfold uncode; rw [if_neg h, hb, if_pos hc0]
theorem uncode_of (l : List Nat) (h : ¬ l.length = 0) (b k : Nat) (hb : l.getD 0 0 = b) (hk : hc b = k) (hk0 : k ≠ 0) : uncode l = uncEnd k (unc l (k - 1) 1 (b - hm k)) := by
 unfold uncode
 rw [if_neg h, hb, hk, if_neg hk0]
theorem empty_of_size (s : ByteArray) (h : s.size = 0) : s = ⟨#[]⟩ := by
 apply ByteArray.ext
 exact Array.eq_empty_of_size_eq_zero h
theorem not_empty (s : ByteArray) (h : ¬ s.size = 0) : s.toList.isEmpty = false := by
 rw [ByteArray.toList_eq, List.isEmpty_eq_false_iff]
 intro e
 apply h
 have : s.data.toList.length = 0 := by rw [e]; rfl
 rw [Array.length_toList] at this
 exact this
theorem uncEnd_err (k e : Nat) (h : e ≠ 0) : uncEnd k (0, e) = (0, 0, e) := by unfold uncEnd; rw [if_pos h]
theorem uncEnd_long (k n : Nat) (h : clen n < k) : uncEnd k (n, 0) = (0, 0, 2) := by unfold uncEnd; rw [if_neg (by simp), if_pos h]
theorem uncEnd_ok (k n : Nat) (h : ¬ clen n < k) : uncEnd k (n, 0) = (n, k, 0) := by unfold uncEnd; rw [if_neg (by simp), if_neg h]
theorem bound_step (n c m B : Nat) (hc : c < 64) (h : (n + 1) * 64 ^ (m + 1) <= B) : (n * 64 + c + 1) * 64 ^ m <= B := by
 have h1 : n * 64 + c + 1 <= (n + 1) * 64 := by omega
 have h2 : (n * 64 + c + 1) * 64 ^ m <= (n + 1) * 64 * 64 ^ m := Nat.mul_le_mul_right _ h1
 have e : (n + 1) * 64 ^ (m + 1) = (n + 1) * 64 * 64 ^ m := by rw [Nat.pow_succ, Nat.mul_comm (64 ^ m), Nat.mul_assoc]
 omega
theorem bound_small (n m k : Nat) (h1 : 1 <= k) (h7 : k <= 7) (h : (n + 1) * 64 ^ m <= cbound k) : n < 68719476736 /\ n < cbound k := by
 have := cbound_le k h1 h7
 have h2 : n + 1 <= (n + 1) * 64 ^ m := Nat.le_mul_of_pos_right _ (Nat.pow_pos (by decide))
 omega
theorem wrap_byte (b : UInt8) : wrap64 (b.toNat : Int) = (b.toNat : Int) := by
 have := UInt8.toNat_lt b
 unfold wrap64
 omega
theorem uncoded_spec (s : ByteArray) (hs : s.size <= 200000000000000) (w : World) :
  Calls Tryz.prog 138 #[.string s] w fun e w' => e = .returned (triple (uncode (bytesOf s))) /\ ∃ n, w' = w.drewN n := by
 by_cases h0 : s.size = 0
 ·have e := empty_of_size s h0
  subst e
  rw [uncode_none _ rfl]
  go_enter Tryz.func138, Tryz.ntmps138
  go_wp2
  go_ret3
  exact ⟨rfl, 0, rfl⟩
 ·have hl : ¬ (bytesOf s).length = 0 := by rw [bytesOf_length]; exact h0
  have hp : 0 < s.size := by omega
  have hg := getD_byte s 0 hp
  have hx : (s[0]'hp).toNat < 256 := UInt8.toNat_lt _
  have hem := not_empty s h0
  obtain ⟨b, hb⟩ : ∃ b, b = (s[0]'hp).toNat := ⟨_, rfl⟩
  rw [<- hb] at hg hx
  have hcs := headCount_spec b hx w
  have hr7 := hc_range b
  by_cases hk0 : hc b = 0
  ·rw [uncode_bad _ hl b hg hk0]
   rw [hk0] at hcs
   rw [hb] at hcs
   clear hg hr7 hk0 hx hb
   go_enter Tryz.func138, Tryz.ntmps138
   go_wp2_with fail
   refine hcs.mono ?_
   rintro e w1 ⟨rfl, rfl⟩
   go_wp2
   go_ret3
   exact ⟨rfl, 0, rfl⟩
  ·have hf := hc_first b hx hk0
   have hxo := xor_head ⟨b, hx⟩ hk0
   simp only at hxo
   obtain ⟨k, hk⟩ : ∃ k, k = hc b := ⟨_, rfl⟩
   rw [<- hk] at hcs hr7 hk0 hf hxo
   rw [uncode_of _ hl b k hg hk.symm hk0]
   have HF := kQ hf.2
   have hne : ((k : Int) == 0) = false := by simp; omega
   have hmw : ∀ w, Calls Tryz.prog 154 #[.int .i64 (k : Int)] w fun e w' => e = .returned (.int .i64 (hm k : Int)) /\ w' = w := fun w => headMark_spec k (by omega) (by omega) w
   generalize b - hm k = n0 at *
   generalize hm k = m0 at *
   rw [hb] at hcs hxo
   clear hg hk hb hf
   go_enter Tryz.func138, Tryz.ntmps138
   go_wp2_with fail
   refine hcs.mono ?_
   rintro e w1 ⟨rfl, rfl⟩
   go_wp2
   go_quiet ((go_at_call 154; exact Calls.quiet_of_same (hmw _)))
   go_wp2
   go_loopw [6, 7] (fun x y wr => ∃ (i n : Nat), 1 <= i /\ i <= k /\ i <= s.size /\ (n + 1) * 64 ^ (k - i) <= cbound k /\ unc (bytesOf s) (k - i) i n = unc (bytesOf s) (k - 1) 1 n0 /\ x = .int .i64 (n : Int) /\ y = .int .i64 (i : Int) /\ ∃ nd, wr = w1.drewN nd) (fun _ y _ => k - (intOf y).toNat)
   case atStart => exact ⟨1, n0, by omega, by omega, by omega, HF.out, rfl, by rw [wrap_byte, hxo], rfl, _, rfl⟩
   case round =>
    obtain ⟨i, n, hi1, hik, his, hbn, hun, rfl, rfl, nd, rfl⟩ := hrel
    have hbs := bound_small n (k - i) k (by omega) hr7 hbn
    by_cases hlt : i < k
    ·obtain ⟨m, hm⟩ : ∃ m, k - i = m + 1 := ⟨k - i - 1, by omega⟩
     rw [hm] at hun hbn
     by_cases he : i = s.size
     ·have hR : uncEnd k (unc (bytesOf s) (k - 1) 1 n0) = (0, 0, 10) := by
       rw [<- hun, unc_short _ _ _ _ (by rw [bytesOf_length]; omega), uncEnd_err k 10 (by decide)]
      have HR : Hid _ := hR
      subst he
      clear hun hbn hR hm
      go_wp2
      go_ret3
      exact ⟨by rw [HR.out]; rfl, nd, rfl⟩
     ·have hsi : i < s.size := by omega
      have hgi := getD_byte s i hsi
      have hxi : (s[i]'hsi).toNat < 256 := UInt8.toNat_lt _
      have hn63 := not63 ⟨(s[i]'hsi).toNat, hxi⟩
      simp only at hn63
      have hie : ((i : Int) == (s.size : Int)) = false := by simp; omega
      by_cases hbad : (s[i]'hsi).toNat < 128 ∨ 192 <= (s[i]'hsi).toNat
      ·have hR : uncEnd k (unc (bytesOf s) (k - 1) 1 n0) = (0, 0, 2) := by
        rw [<- hun, unc_bad _ _ _ _ (by rw [bytesOf_length]; omega) (by rw [hgi]; exact hbad), uncEnd_err k 2 (by decide)]
       have HR : Hid _ := hR
       rw [decide_eq_true hbad] at hn63
       clear hun hbn hR hm hbad hgi
       go_wp2
       go_ret3
       exact ⟨by rw [HR.out]; rfl, nd, rfl⟩
      ·rw [decide_eq_false hbad] at hn63
       have hor := or_tail n _ hbs.1 hxi hbad
       have hst := unc_step (bytesOf s) m i n (by rw [bytesOf_length]; omega) (by rw [hgi]; exact hbad)
       rw [hgi, hun] at hst
       have hbn2 := bound_step n ((s[i]'hsi).toNat - 128) m _ (by omega) hbn
       have HST : Hid _ := hst
       have HBN : Hid _ := hbn2
       have hn2 := hbs.1
       have hge : 128 <= (s[i]'hsi).toNat := by omega
       clear hun hbn hbad hgi hst hbn2 hbs
       go_wp2
       go_roundw
       case rel => exact ⟨i + 1, _, by omega, by omega, by omega, by rw [show k - (i + 1) = m from by omega]; exact HBN.out, by rw [show k - (i + 1) = m from by omega]; exact HST.out.symm, by go_num, by go_num, nd, rfl⟩
       case measure => simp [intOf]; omega
    focus
     obtain rfl : i = k := by omega
     rw [Nat.sub_self, unc_end] at hun
     have hcl := codedLen_spec n hbs.1 (w1.drewN nd)
     by_cases hlo : clen n < i
     focus
      have HR : Hid (uncEnd i (unc (bytesOf s) (i - 1) 1 n0) = (0, 0, 2)) := by
       show _ = _
       rw [<- hun, uncEnd_long i n hlo]
     rotate_left
     focus
      have HR : Hid (uncEnd i (unc (bytesOf s) (i - 1) 1 n0) = (n, i, 0)) := by
       show _ = _
       rw [<- hun, uncEnd_ok i n hlo]
     rotate_left
    rotate_left 2
    all_goals
     clear hun hbn
     go_wp2_with fail
     refine hcl.mono ?_
     rintro e w2 ⟨rfl, rfl⟩
     go_wp2
     go_ret3
     exact ⟨by rw [HR.out]; rfl, nd, rfl⟩
end S2
end Go.Proofs.YtfpfabmbipmipaaGreatDoor
namespace Go.Proofs.YtfpfabmbipmipaaGreatDoor
open Go.RowKit
theorem Lay.only {w w' : World} {x : Nat} (h : Lay w) (hs : Stays (only x) w w') (hx : 4 <= x) : Lay w' := by
 have tab : ∀ {b : Nat} {T : List Int}, b < 4 -> IntTab b T w -> IntTab b T w' := fun {b T} hb4 ht j hj => by
  have h1 := ht j hj
  rw [<- h1]; exact World.cell?_of_block (w := w) (hs.block _ (lt_cell h1) (fun e => by have e2 : b = x := e; omega))
 refine ⟨tab (by decide) h.z, tab (by decide) h.r, tab (by decide) h.d, ?_⟩
 have hlt := S3.RulesAt.size h.u
 obtain ⟨t, fz, hb⟩ := h.u
 exact ⟨t, fz, by rw [hs.block _ (lt_of_block hb) (fun e => by have e2 : 3 = x := e; omega)]; exact hb⟩
theorem tail_bytes (s : ByteArray) (a : Nat) : bytesOf (s.extract a s.size) = (bytesOf s).drop a := by
 rw [bytesOf_extract, List.take_of_length_le (by rw [bytesOf_length]; exact Nat.le_refl _)]
theorem head_bytes (s : ByteArray) (b : Nat) : bytesOf (s.extract 0 b) = (bytesOf s).take b := by
 rw [bytesOf_extract, List.drop_zero]
theorem extract_size (s : ByteArray) (a b : Nat) (h : b <= s.size) : (s.extract a b).size = b - a := by
 rw [<- bytesOf_length, bytesOf_extract, List.length_drop, List.length_take, bytesOf_length]; omega
theorem f_num_ok (x g : Nat) (s : ByteArray) (hs : s.size ≤ 140737488351232) (h : Hd) (num k : Nat) (h4 : 4 ≤ s.size) (hu : uncode ((bytesOf s).drop 4) = (num, k, 0)) (w0 w : World) (ha : HX x g s h 32 w0 w) :
  Calls Tryz.prog 95 #[.pointer (some ⟨x, 0, none⟩), .string s, .pointer (some ⟨g, 0, none⟩)] w fun en w' => en = .returned (.bool true) ∧ HX x g s { h with num := (num : Int) } (32 + 8 * k) w0 w' := by
 obtain ⟨u1, u2, u3, u4⟩ := uncode_again ((bytesOf s).drop 4) (fun b hb => bytesOf_lt s b (List.mem_of_mem_drop hb)) num k hu
 have hk7 : k ≤ 7 := (by rw [u1]; exact (clen_range num).2)
 have hnum : num < 68719476736 := u2
 have hk4 : 4 + k ≤ s.size := by rw [List.length_drop, bytesOf_length] at u3; omega
 have ku := fun wx => S2.uncoded_spec (s.extract 4 s.size) (by rw [extract_size s 4 s.size (Nat.le_refl _)]; omega) wx
 rw [tail_bytes, hu] at ku
 have KU : Hid (∀ wx, Calls Tryz.prog 138 #[.string (s.extract 4 s.size)] wx fun e w' => e = .returned (.tuple #[.int .i64 (num : Int), .int .i64 (k : Int), .int .i64 0]) ∧ ∃ n, w' = wx.drewN n) := ku
 have HA : Hid (HX x g s h 32 w0 w) := ha
 have kat := at_spec x s 32 w ha.rd
 have KN : Hid (∀ wx, Rd wx x s 32 → Calls Tryz.prog 137 #[.pointer (some ⟨x, 0, none⟩), .int .i64 (8 * (k : Int))] wx fun e w' => e = .returned (.int .i64 (bitsAt s 32 (8 * k) : Int)) ∧ Rd w' x s (32 + 8 * k) ∧ Stays (only x) wx w') := fun wx h => f_next x s hs 32 (8 * k) (by omega) (by omega) wx h
 clear ha ku u1 u2 u3 u4 hu
 go_enter Tryz.func95, Tryz.ntmps95
 go_wp2_with fail
 refine kat.mono ?_
 rintro en w1 ⟨rfl, hw1⟩
 subst hw1
 clear kat
 go_wp2_with fail
 refine (KU.out _).mono ?_
 rintro en w2 ⟨rfl, nn, hw2⟩
 have HB : Hid (HX x g s h 32 w0 w2) := by rw [hw2]; exact HA.out.low (below_drewN _ _)
 clear hw2 HA KU
 obtain ⟨z0, z1, z2, z3, z4, z5, z6, z7⟩ := HB.out.cells
 have fz := HB.out.f 5
 have HC : Hid (HX x g s { h with num := (num : Int) } 32 w0 (w2.setCell ⟨g, 5, none⟩ (.int .i64 (num : Int)))) := HB.out.put 5 _ _ rfl
 go_wp2_with fail
 clear z0 z1 z2 z3 z4 z5 z6 z7 fz HB
 generalize w2.setCell ⟨g, 5, none⟩ (.int .i64 (num : Int)) = w3 at *
 refine (KN.out _ HC.out.rd).mono ?_
 rintro en w4 ⟨rfl, hr, hs4⟩
 have HD : Hid (HX x g s { h with num := (num : Int) } (32 + 8 * k) w0 w4) := HC.out.next hr hs4
 clear hr hs4 HC KN
 go_wp2_with fail
 go_ret
 exact ⟨rfl, HD.out⟩
theorem f_num_no (x g : Nat) (s : ByteArray) (hs : s.size ≤ 140737488351232) (h : Hd) (num k er : Nat) (he : ¬ er = 0) (h4 : 4 ≤ s.size) (hu : uncode ((bytesOf s).drop 4) = (num, k, er)) (w0 w : World) (ha : HX x g s h 32 w0 w) :
  Calls Tryz.prog 95 #[.pointer (some ⟨x, 0, none⟩), .string s, .pointer (some ⟨g, 0, none⟩)] w fun en w' => en = .returned (.bool false) ∧ HX x g s h 32 w0 w' := by
 have ku := fun wx => S2.uncoded_spec (s.extract 4 s.size) (by rw [extract_size s 4 s.size (Nat.le_refl _)]; omega) wx
 rw [tail_bytes, hu] at ku
 have KU : Hid (∀ wx, Calls Tryz.prog 138 #[.string (s.extract 4 s.size)] wx fun e w' => e = .returned (.tuple #[.int .i64 (num : Int), .int .i64 (k : Int), .int .i64 (er : Int)]) ∧ ∃ n, w' = wx.drewN n) := ku
 have HA : Hid (HX x g s h 32 w0 w) := ha
 have kat := at_spec x s 32 w ha.rd
 have hbe : ((er : Int) != 0) = true := by rw [bne_iff_ne]; omega
 clear ha ku hu
 go_enter Tryz.func95, Tryz.ntmps95
 go_wp2_with fail
 refine kat.mono ?_
 rintro en w1 ⟨rfl, hw1⟩
 subst hw1
 clear kat
 go_wp2_with fail
 refine (KU.out _).mono ?_
 rintro en w2 ⟨rfl, nn, hw2⟩
 have HB : Hid (HX x g s h 32 w0 w2) := by rw [hw2]; exact HA.out.low (below_drewN _ _)
 clear hw2 HA KU
 go_wp2_with fail
 go_ret
 exact ⟨rfl, HB.out⟩
theorem f_beh_no (x g : Nat) (s : ByteArray) (hs : s.size <= 140737488351232) (h : Hd) (a : Nat) (zn rn : Nat) (hz : szb h.sc = zn) (hr : rtb h.rc = rn) (hz2 : zn <= 2) (hr2 : rn <= 2) (ha8 : a <= 8 * s.size) (hl : 8 * s.size < a + (8 * zn + 8 * rn)) (w0 w : World) (ha : HX x g s h a w0 w) :
  Calls Tryz.prog 96 #[.pointer (some ⟨x, 0, none⟩), .pointer (some ⟨g, 0, none⟩)] w fun en w' => en = .returned (.bool false) /\ HX x g s h a w0 w' := by
 have kz := f_szb h.sc
 have kr := f_rtb h.rc
 rw [hz] at kz
 rw [hr] at kr
 have HA := kQ ha
 have KL : Hid (∀ wx, HX x g s h a w0 wx -> Calls Tryz.prog 136 #[.pointer (some ⟨x, 0, none⟩)] wx fun e w' => e = .returned (.int .i64 (8 * (s.size : Int) - (a : Int))) /\ ∃ n, w' = wx.drewN n) := fun wx hh => left_spec x s (by omega) a ha8 wx hh.rd
 obtain ⟨z0, z1, z2, z3, z4, z5, z6, z7⟩ := ha.cells
 clear ha hz hr
 go_enter Tryz.func96, Tryz.ntmps96
 go_wp2_with fail
 go_quiet (first | (go_at_call 60; exact Calls.quiet_of_same (kz _)) | (go_at_call 61; exact Calls.quiet_of_same (kr _)))
 have HB : Hid (HX x g s h a w0 (w.drewN nq)) := HA.out.low (below_drewN _ _)
 clear z0 z1 z2 z3 z4 z5 z6 z7 HA kz kr
 generalize w.drewN nq = w1 at *
 go_wp2_with fail
 refine (KL.out _ HB.out).mono ?_
 rintro en w2 ⟨rfl, nn, hw2⟩
 have HC : Hid (HX x g s h a w0 w2) := by rw [hw2]; exact HB.out.low (below_drewN _ _)
 clear hw2 HB KL
 go_wp2_with fail
 go_ret
 exact ⟨rfl, HC.out⟩
theorem f_beh_ok (x g : Nat) (s : ByteArray) (hs : s.size <= 140737488351232) (h : Hd) (a : Nat) (zn rn : Nat) (hz : szb h.sc = zn) (hr : rtb h.rc = rn) (hz2 : zn <= 2) (hr2 : rn <= 2) (hl : a + 8 * zn + 8 * rn <= 8 * s.size) (w0 w : World) (ha : HX x g s h a w0 w) :
  Calls Tryz.prog 96 #[.pointer (some ⟨x, 0, none⟩), .pointer (some ⟨g, 0, none⟩)] w fun en w' => en = .returned (.bool true) /\ HX x g s { h with sz := (bitsAt s a (8 * zn) : Int), rt := (bitsAt s (a + 8 * zn) (8 * rn) : Int) } (a + 8 * zn + 8 * rn) w0 w' := by
 have kz := f_szb h.sc
 have kr := f_rtb h.rc
 rw [hz] at kz
 rw [hr] at kr
 have HA := kQ ha
 have KL : Hid (∀ wx, HX x g s h a w0 wx -> Calls Tryz.prog 136 #[.pointer (some ⟨x, 0, none⟩)] wx fun e w' => e = .returned (.int .i64 (8 * (s.size : Int) - (a : Int))) /\ ∃ n, w' = wx.drewN n) := fun wx hh => left_spec x s (by omega) a (by omega) wx hh.rd
 have KN : Hid (∀ wx, Rd wx x s a -> Calls Tryz.prog 137 #[.pointer (some ⟨x, 0, none⟩), .int .i64 (8 * (zn : Int))] wx fun e w' => e = .returned (.int .i64 (bitsAt s a (8 * zn) : Int)) /\ Rd w' x s (a + 8 * zn) /\ Stays (only x) wx w') := fun wx h => f_next x s hs a (8 * zn) (by omega) (by omega) wx h
 have KM : Hid (∀ wx, Rd wx x s (a + 8 * zn) -> Calls Tryz.prog 137 #[.pointer (some ⟨x, 0, none⟩), .int .i64 (8 * (rn : Int))] wx fun e w' => e = .returned (.int .i64 (bitsAt s (a + 8 * zn) (8 * rn) : Int)) /\ Rd w' x s (a + 8 * zn + 8 * rn) /\ Stays (only x) wx w') := fun wx h => f_next x s hs (a + 8 * zn) (8 * rn) (by omega) (by omega) wx h
 obtain ⟨z0, z1, z2, z3, z4, z5, z6, z7⟩ := ha.cells
 clear ha hz hr
 generalize bitsAt s a (8 * zn) = u at *
 generalize bitsAt s (a + 8 * zn) (8 * rn) = v at *
 go_enter Tryz.func96, Tryz.ntmps96
 go_wp2_with fail
 go_quiet (first | (go_at_call 60; exact Calls.quiet_of_same (kz _)) | (go_at_call 61; exact Calls.quiet_of_same (kr _)))
 have HB : Hid (HX x g s h a w0 (w.drewN nq)) := HA.out.low (below_drewN _ _)
 clear z0 z1 z2 z3 z4 z5 z6 z7 HA kz kr
 generalize w.drewN nq = w1 at *
 go_wp2_with fail
 refine (KL.out _ HB.out).mono ?_
 rintro en w2 ⟨rfl, nn, hw2⟩
 have HC : Hid (HX x g s h a w0 w2) := by rw [hw2]; exact HB.out.low (below_drewN _ _)
 clear hw2 HB KL
 go_wp2_with fail
 refine (KN.out _ HC.out.rd).mono ?_
 rintro en w3 ⟨rfl, hr3, hs3⟩
 have HD := kQ (HC.out.next hr3 hs3)
 clear hr3 hs3 HC KN
 obtain ⟨z0, z1, z2, z3, z4, z5, z6, z7⟩ := HD.out.cells
 have fz := HD.out.f 6
 have HE : Hid (HX x g s { h with sz := (u : Int) } (a + 8 * zn) w0 (w3.setCell ⟨g, 6, none⟩ (.int .i64 (u : Int)))) := HD.out.put 6 _ _ rfl
 go_wp2_with fail
 clear z0 z1 z2 z3 z4 z5 z6 z7 fz HD
 generalize w3.setCell ⟨g, 6, none⟩ (.int .i64 (u : Int)) = w4 at *
 refine (KM.out _ HE.out.rd).mono ?_
 rintro en w5 ⟨rfl, hr5, hs5⟩
 have HF := kQ (HE.out.next hr5 hs5)
 clear hr5 hs5 HE KM
 obtain ⟨z0, z1, z2, z3, z4, z5, z6, z7⟩ := HF.out.cells
 have fz := HF.out.f 7
 have HG : Hid (HX x g s { h with sz := (u : Int), rt := (v : Int) } (a + 8 * zn + 8 * rn) w0 (w5.setCell ⟨g, 7, none⟩ (.int .i64 (v : Int)))) := HF.out.put 7 _ _ rfl
 go_wp2_with fail
 clear z0 z1 z2 z3 z4 z5 z6 z7 fz HF
 go_ret
 exact ⟨rfl, HG.out⟩
theorem f_sum8_end (x : Nat) (s : ByteArray) (hs : s.size <= 140737488351232) (m : Nat) (hm : m <= s.size) (he : 8 * s.size < 8 * m + 8) (w : World) (hr : Rd w x s (8 * m)) :
  Calls Tryz.prog 97 #[.pointer (some ⟨x, 0, none⟩), .string s, .int .i64 8, .func (.func 63) #[] #[]] w fun en w' => en = .returned (.bool false) /\ Lo w w' := by
 have kat := at_spec x s (8 * m) w hr
 have kg := get_end x s (by omega) (8 * m) (by omega) 8 (by decide) he w hr
 clear hr
 go_enter Tryz.func97, Tryz.ntmps97
 go_wp2_with fail
 refine kat.mono ?_
 rintro en w1 ⟨rfl, hw1⟩
 subst hw1
 clear kat
 go_wp2_with fail
 refine kg.mono ?_
 rintro en w2 ⟨rfl, nn, hw2⟩
 have HB : Hid (Lo w1 w2) := by rw [hw2]; exact below_drewN _ _
 clear hw2 kg
 go_wp2_with fail
 go_ret
 exact ⟨rfl, HB.out⟩
theorem f_sum8_yes (x : Nat) (s : ByteArray) (hs : s.size <= 140737488351232) (m : Nat) (hm : 8 * m + 8 <= 8 * s.size) (hc : bitsAt s (8 * m) 8 = crc8N ((bytesOf s).take m)) (w : World) (hr : Rd w x s (8 * m)) (hL : Lay w) (hx4 : 4 <= x) :
  Calls Tryz.prog 97 #[.pointer (some ⟨x, 0, none⟩), .string s, .int .i64 8, .func (.func 63) #[] #[]] w fun en w' => en = .returned (.bool true) /\ Rd w' x s (8 * m + 8) /\ Stays (only x) w w' := by
 have kat := at_spec x s (8 * m) w hr
 have kg := get_ok x s (by omega) (8 * m) 8 (by decide) hm w hr
 have hblt := bitsAt_lt s (8 * m) 8
 have hcr : S3.c8 (s.extract 0 m) = crc8N ((bytesOf s).take m) := by unfold S3.c8 crc8N; rw [head_bytes]
 have KC : Hid (∀ wx, Stays (only x) w wx -> G1 63 #[.string (s.extract 0 m)] wx (.int .i64 (S3.c8 (s.extract 0 m) : Int))) := fun wx hst => S3.crc8_spec (s.extract 0 m) (by rw [extract_size s 0 m (by omega)]; omega) wx (hL.only hst hx4).u
 rw [hcr] at KC
 have hclt : crc8N ((bytesOf s).take m) < 65536 := Nat.lt_trans (crcL p8 0#8 _).isLt (by decide)
 have hbe : ((bitsAt s (8 * m) 8 : Int) == ((crc8N ((bytesOf s).take m) : Nat) : Int)) = true := eQt (by omega)
 clear hr hL hc hcr
 generalize bitsAt s (8 * m) 8 = u at *
 generalize crc8N ((bytesOf s).take m) = v at *
 go_enter Tryz.func97, Tryz.ntmps97
 go_wp2_with fail
 refine kat.mono ?_
 rintro en w1 ⟨rfl, hw1⟩
 subst hw1
 clear kat
 go_wp2_with fail
 refine kg.mono ?_
 rintro en w2 ⟨rfl, hr2, hs2⟩
 have HR : Hid (Rd w2 x s (8 * m + 8) /\ Stays (only x) w1 w2) := ⟨hr2, hs2⟩
 clear hr2 hs2 kg
 go_wp2_with fail
 refine (KC.out _ HR.out.2).mono ?_
 rintro en w3 ⟨rfl, hb3⟩
 have HR3 : Hid (Rd w3 x s (8 * m + 8) /\ Stays (only x) w1 w3) := ⟨by unfold Rd; rw [hb3.block _ HR.out.1.lt]; exact HR.out.1, HR.out.2.trans (Stays.of_below hb3 (only x)) (fun _ _ h => h)⟩
 clear hb3 HR KC
 go_wp2_with fail
 go_ret
 exact ⟨rfl, HR3.out⟩
theorem f_sum8_no (x : Nat) (s : ByteArray) (hs : s.size <= 140737488351232) (m : Nat) (hm : 8 * m + 8 <= 8 * s.size) (hc : ¬ bitsAt s (8 * m) 8 = crc8N ((bytesOf s).take m)) (w : World) (hr : Rd w x s (8 * m)) (hL : Lay w) (hx4 : 4 <= x) :
  Calls Tryz.prog 97 #[.pointer (some ⟨x, 0, none⟩), .string s, .int .i64 8, .func (.func 63) #[] #[]] w fun en w' => en = .returned (.bool false) /\ Rd w' x s (8 * m + 8) /\ Stays (only x) w w' := by
 have kat := at_spec x s (8 * m) w hr
 have kg := get_ok x s (by omega) (8 * m) 8 (by decide) hm w hr
 have hblt := bitsAt_lt s (8 * m) 8
 have hcr : S3.c8 (s.extract 0 m) = crc8N ((bytesOf s).take m) := by unfold S3.c8 crc8N; rw [head_bytes]
 have KC : Hid (∀ wx, Stays (only x) w wx -> G1 63 #[.string (s.extract 0 m)] wx (.int .i64 (S3.c8 (s.extract 0 m) : Int))) := fun wx hst => S3.crc8_spec (s.extract 0 m) (by rw [extract_size s 0 m (by omega)]; omega) wx (hL.only hst hx4).u
 rw [hcr] at KC
 have hclt : crc8N ((bytesOf s).take m) < 65536 := Nat.lt_trans (crcL p8 0#8 _).isLt (by decide)
 have hbe : ((bitsAt s (8 * m) 8 : Int) == ((crc8N ((bytesOf s).take m) : Nat) : Int)) = false := eQf (by omega)
 clear hr hL hc hcr
 generalize bitsAt s (8 * m) 8 = u at *
 generalize crc8N ((bytesOf s).take m) = v at *
 go_enter Tryz.func97, Tryz.ntmps97
 go_wp2_with fail
 refine kat.mono ?_
 rintro en w1 ⟨rfl, hw1⟩
 subst hw1
 clear kat
 go_wp2_with fail
 refine kg.mono ?_
 rintro en w2 ⟨rfl, hr2, hs2⟩
 have HR : Hid (Rd w2 x s (8 * m + 8) /\ Stays (only x) w1 w2) := ⟨hr2, hs2⟩
 clear hr2 hs2 kg
 go_wp2_with fail
 refine (KC.out _ HR.out.2).mono ?_
 rintro en w3 ⟨rfl, hb3⟩
 have HR3 : Hid (Rd w3 x s (8 * m + 8) /\ Stays (only x) w1 w3) := ⟨by unfold Rd; rw [hb3.block _ HR.out.1.lt]; exact HR.out.1, HR.out.2.trans (Stays.of_below hb3 (only x)) (fun _ _ h => h)⟩
 clear hb3 HR KC
 go_wp2_with fail
 go_ret
 exact ⟨rfl, HR3.out⟩
theorem f_sum16_end (x : Nat) (s : ByteArray) (hs : s.size <= 140737488351232) (m : Nat) (hm : m <= s.size) (he : 8 * s.size < 8 * m + 16) (w : World) (hr : Rd w x s (8 * m)) :
  Calls Tryz.prog 97 #[.pointer (some ⟨x, 0, none⟩), .string s, .int .i64 16, .func (.func 25) #[] #[]] w fun en w' => en = .returned (.bool false) /\ Lo w w' := by
 have kat := at_spec x s (8 * m) w hr
 have kg := get_end x s (by omega) (8 * m) (by omega) 16 (by decide) he w hr
 clear hr
 go_enter Tryz.func97, Tryz.ntmps97
 go_wp2_with fail
 refine kat.mono ?_
 rintro en w1 ⟨rfl, hw1⟩
 subst hw1
 clear kat
 go_wp2_with fail
 refine kg.mono ?_
 rintro en w2 ⟨rfl, nn, hw2⟩
 have HB : Hid (Lo w1 w2) := by rw [hw2]; exact below_drewN _ _
 clear hw2 kg
 go_wp2_with fail
 go_ret
 exact ⟨rfl, HB.out⟩
theorem f_sum16_yes (x : Nat) (s : ByteArray) (hs : s.size <= 140737488351232) (m : Nat) (hm : 8 * m + 16 <= 8 * s.size) (hc : bitsAt s (8 * m) 16 = crc16N ((bytesOf s).take m)) (w : World) (hr : Rd w x s (8 * m)) (hL : Lay w) (hx4 : 4 <= x) :
  Calls Tryz.prog 97 #[.pointer (some ⟨x, 0, none⟩), .string s, .int .i64 16, .func (.func 25) #[] #[]] w fun en w' => en = .returned (.bool true) /\ Rd w' x s (8 * m + 16) /\ Stays (only x) w w' := by
 have kat := at_spec x s (8 * m) w hr
 have kg := get_ok x s (by omega) (8 * m) 16 (by decide) hm w hr
 have hblt := bitsAt_lt s (8 * m) 16
 have hcr : S3.c16 (s.extract 0 m) = crc16N ((bytesOf s).take m) := by unfold S3.c16 crc16N; rw [head_bytes]
 have KC : Hid (∀ wx, Stays (only x) w wx -> G1 25 #[.string (s.extract 0 m)] wx (.int .i64 (S3.c16 (s.extract 0 m) : Int))) := fun wx hst => S3.crc16_spec (s.extract 0 m) (by rw [extract_size s 0 m (by omega)]; omega) wx (hL.only hst hx4).u
 rw [hcr] at KC
 have hclt : crc16N ((bytesOf s).take m) < 65536 := crc16_lt _
 have hbe : ((bitsAt s (8 * m) 16 : Int) == ((crc16N ((bytesOf s).take m) : Nat) : Int)) = true := eQt (by omega)
 clear hr hL hc hcr
 generalize bitsAt s (8 * m) 16 = u at *
 generalize crc16N ((bytesOf s).take m) = v at *
 go_enter Tryz.func97, Tryz.ntmps97
 go_wp2_with fail
 refine kat.mono ?_
 rintro en w1 ⟨rfl, hw1⟩
 subst hw1
 clear kat
 go_wp2_with fail
 refine kg.mono ?_
 rintro en w2 ⟨rfl, hr2, hs2⟩
 have HR : Hid (Rd w2 x s (8 * m + 16) /\ Stays (only x) w1 w2) := ⟨hr2, hs2⟩
 clear hr2 hs2 kg
 go_wp2_with fail
 refine (KC.out _ HR.out.2).mono ?_
 rintro en w3 ⟨rfl, hb3⟩
 have HR3 : Hid (Rd w3 x s (8 * m + 16) /\ Stays (only x) w1 w3) := ⟨by unfold Rd; rw [hb3.block _ HR.out.1.lt]; exact HR.out.1, HR.out.2.trans (Stays.of_below hb3 (only x)) (fun _ _ h => h)⟩
 clear hb3 HR KC
 go_wp2_with fail
 go_ret
 exact ⟨rfl, HR3.out⟩
theorem f_sum16_no (x : Nat) (s : ByteArray) (hs : s.size <= 140737488351232) (m : Nat) (hm : 8 * m + 16 <= 8 * s.size) (hc : ¬ bitsAt s (8 * m) 16 = crc16N ((bytesOf s).take m)) (w : World) (hr : Rd w x s (8 * m)) (hL : Lay w) (hx4 : 4 <= x) :
  Calls Tryz.prog 97 #[.pointer (some ⟨x, 0, none⟩), .string s, .int .i64 16, .func (.func 25) #[] #[]] w fun en w' => en = .returned (.bool false) /\ Rd w' x s (8 * m + 16) /\ Stays (only x) w w' := by
 have kat := at_spec x s (8 * m) w hr
 have kg := get_ok x s (by omega) (8 * m) 16 (by decide) hm w hr
 have hblt := bitsAt_lt s (8 * m) 16
 have hcr : S3.c16 (s.extract 0 m) = crc16N ((bytesOf s).take m) := by unfold S3.c16 crc16N; rw [head_bytes]
 have KC : Hid (∀ wx, Stays (only x) w wx -> G1 25 #[.string (s.extract 0 m)] wx (.int .i64 (S3.c16 (s.extract 0 m) : Int))) := fun wx hst => S3.crc16_spec (s.extract 0 m) (by rw [extract_size s 0 m (by omega)]; omega) wx (hL.only hst hx4).u
 rw [hcr] at KC
 have hclt : crc16N ((bytesOf s).take m) < 65536 := crc16_lt _
 have hbe : ((bitsAt s (8 * m) 16 : Int) == ((crc16N ((bytesOf s).take m) : Nat) : Int)) = false := eQf (by omega)
 clear hr hL hc hcr
 generalize bitsAt s (8 * m) 16 = u at *
 generalize crc16N ((bytesOf s).take m) = v at *
 go_enter Tryz.func97, Tryz.ntmps97
 go_wp2_with fail
 refine kat.mono ?_
 rintro en w1 ⟨rfl, hw1⟩
 subst hw1
 clear kat
 go_wp2_with fail
 refine kg.mono ?_
 rintro en w2 ⟨rfl, hr2, hs2⟩
 have HR : Hid (Rd w2 x s (8 * m + 16) /\ Stays (only x) w1 w2) := ⟨hr2, hs2⟩
 clear hr2 hs2 kg
 go_wp2_with fail
 refine (KC.out _ HR.out.2).mono ?_
 rintro en w3 ⟨rfl, hb3⟩
 have HR3 : Hid (Rd w3 x s (8 * m + 16) /\ Stays (only x) w1 w3) := ⟨by unfold Rd; rw [hb3.block _ HR.out.1.lt]; exact HR.out.1, HR.out.2.trans (Stays.of_below hb3 (only x)) (fun _ _ h => h)⟩
 clear hb3 HR KC
 go_wp2_with fail
 go_ret
 exact ⟨rfl, HR3.out⟩
theorem bitsOf_zero (k : Nat) : bitsOf 0 k = List.replicate k 0 := by
 have h := bitsOf_num (List.replicate k 0) (fun b hb => by rw [(List.mem_replicate.1 hb).2]; decide)
 rw [num_zeros, List.length_replicate] at h
 exact h
theorem pad_zero (s : ByteArray) (a1 : Nat) (ha : a1 <= 8 * s.size) : bitsAt s a1 (padOf a1) = 0 ↔ (ahead s a1).take (8 * ((a1 + 7) / 8) - a1) = List.replicate (8 * ((a1 + 7) / 8) - a1) 0 := by
 have hp : padOf a1 = 8 * ((a1 + 7) / 8) - a1 := by unfold padOf; omega
 rw [hp]
 generalize hk : 8 * ((a1 + 7) / 8) - a1 = k
 have hl : ((ahead s a1).take k).length = k := by rw [List.length_take, ahead_length]; omega
 have h01 : Bits01 ((ahead s a1).take k) := (ahead_01 s a1).take k
 have hb : bitsAt s a1 k = num ((ahead s a1).take k) := rfl
 rw [hb]
 constructor
 ·intro h
  have e := bitsOf_num _ h01
  rw [h, hl] at e
  rw [<- e]
  exact bitsOf_zero k
 ·intro h
  rw [h]; exact num_zeros k
theorem pad_at (a1 : Nat) : a1 + padOf a1 = 8 * ((a1 + 7) / 8) := by unfold padOf; omega
theorem re_pad (x : Nat) (s : ByteArray) (hs : s.size <= 140737488351232) (a1 m : Nat) (hm : m = (a1 + 7) / 8) (ha : a1 <= 8 * s.size) (w : World) (hr : Rd w x s a1) (hL : Lay w) (hx4 : 4 <= x) (hp : ¬ bitsAt s a1 (padOf a1) = 0) : Calls Tryz.prog 47 #[.pointer (some ⟨x, 0, none⟩), .string s] w fun en w' => en = .returned (.bool false) /\ Stays (only x) w w' := by
 have kal := ralign_spec x s (by omega) a1 ha w hr
 rw [pad_at, <- hm] at kal
 have hbe : ((bitsAt s a1 (padOf a1) : Int) == 0) = false := eQf (by omega)
 clear hp hr hL
 generalize bitsAt s a1 (padOf a1) = u at *
 go_enter Tryz.func47, Tryz.ntmps47
 go_wp2_with fail
 refine kal.mono ?_
 rintro en w1 ⟨rfl, h1, h2⟩
 have HR : Hid (Rd w1 x s (8 * m) /\ Stays (only x) w w1) := ⟨h1, h2⟩
 clear h1 h2 kal
 go_wp2_with fail
 go_ret
 exact ⟨rfl, HR.out.2⟩
theorem re_end (x : Nat) (s : ByteArray) (hs : s.size <= 140737488351232) (a1 m : Nat) (hm : m = (a1 + 7) / 8) (ha : a1 <= 8 * s.size) (w : World) (hr : Rd w x s a1) (hL : Lay w) (hx4 : 4 <= x) (hp : bitsAt s a1 (padOf a1) = 0) (he : 8 * s.size < 8 * m + 16) : Calls Tryz.prog 47 #[.pointer (some ⟨x, 0, none⟩), .string s] w fun en w' => en = .returned (.bool false) /\ Stays (only x) w w' := by
 have kal := ralign_spec x s (by omega) a1 ha w hr
 rw [pad_at, <- hm] at kal
 have KS : Hid (∀ wx, (Rd wx x s (8 * m) /\ Stays (only x) w wx) -> Calls Tryz.prog 97 #[.pointer (some ⟨x, 0, none⟩), .string s, .int .i64 16, .func (.func 25) #[] #[]] wx fun en w' => en = .returned (.bool false) /\ Stays (only x) w w') := fun wx hh => (f_sum16_end x s hs m (by omega) he wx hh.1).mono fun en w' q => ⟨q.1, hh.2.trans (Stays.of_below q.2 (only x)) (fun _ _ h => h)⟩
 have hbe : ((bitsAt s a1 (padOf a1) : Int) == 0) = true := eQt (by omega)
 clear hp hr hL
 generalize bitsAt s a1 (padOf a1) = u at *
 go_enter Tryz.func47, Tryz.ntmps47
 go_wp2_with fail
 refine kal.mono ?_
 rintro en w1 ⟨rfl, h1, h2⟩
 have HR : Hid (Rd w1 x s (8 * m) /\ Stays (only x) w w1) := ⟨h1, h2⟩
 clear h1 h2 kal
 go_wp2_with fail
 refine (KS.out _ HR.out).mono ?_
 rintro en w2 ⟨rfl, hs2⟩
 have HS := kQ hs2
 clear hs2
 clear KS HR
 go_wp2_with fail
 go_ret
 exact ⟨rfl, HS.out⟩
theorem re_no (x : Nat) (s : ByteArray) (hs : s.size <= 140737488351232) (a1 m : Nat) (hm : m = (a1 + 7) / 8) (ha : a1 <= 8 * s.size) (w : World) (hr : Rd w x s a1) (hL : Lay w) (hx4 : 4 <= x) (hp : bitsAt s a1 (padOf a1) = 0) (he : 8 * m + 16 <= 8 * s.size) (hc : ¬ bitsAt s (8 * m) 16 = crc16N ((bytesOf s).take m)) : Calls Tryz.prog 47 #[.pointer (some ⟨x, 0, none⟩), .string s] w fun en w' => en = .returned (.bool false) /\ Stays (only x) w w' := by
 have kal := ralign_spec x s (by omega) a1 ha w hr
 rw [pad_at, <- hm] at kal
 have KS : Hid (∀ wx, (Rd wx x s (8 * m) /\ Stays (only x) w wx) -> Calls Tryz.prog 97 #[.pointer (some ⟨x, 0, none⟩), .string s, .int .i64 16, .func (.func 25) #[] #[]] wx fun en w' => en = .returned (.bool false) /\ Stays (only x) w w') := fun wx hh => (f_sum16_no x s hs m he hc wx hh.1 (hL.only hh.2 hx4) hx4).mono fun en w' q => ⟨q.1, hh.2.trans q.2.2 (fun _ _ h => h)⟩
 have hbe : ((bitsAt s a1 (padOf a1) : Int) == 0) = true := eQt (by omega)
 clear hp hr hL
 generalize bitsAt s a1 (padOf a1) = u at *
 go_enter Tryz.func47, Tryz.ntmps47
 go_wp2_with fail
 refine kal.mono ?_
 rintro en w1 ⟨rfl, h1, h2⟩
 have HR : Hid (Rd w1 x s (8 * m) /\ Stays (only x) w w1) := ⟨h1, h2⟩
 clear h1 h2 kal
 go_wp2_with fail
 refine (KS.out _ HR.out).mono ?_
 rintro en w2 ⟨rfl, hs2⟩
 have HS := kQ hs2
 clear hs2
 clear KS HR
 go_wp2_with fail
 go_ret
 exact ⟨rfl, HS.out⟩
theorem re_ok (x : Nat) (s : ByteArray) (hs : s.size <= 140737488351232) (a1 m : Nat) (hm : m = (a1 + 7) / 8) (ha : a1 <= 8 * s.size) (w : World) (hr : Rd w x s a1) (hL : Lay w) (hx4 : 4 <= x) (hp : bitsAt s a1 (padOf a1) = 0) (he : 8 * m + 16 <= 8 * s.size) (hc : bitsAt s (8 * m) 16 = crc16N ((bytesOf s).take m)) : Calls Tryz.prog 47 #[.pointer (some ⟨x, 0, none⟩), .string s] w fun en w' => en = .returned (.bool true) /\ Rd w' x s (8 * m + 16) /\ Stays (only x) w w' := by
 have kal := ralign_spec x s (by omega) a1 ha w hr
 rw [pad_at, <- hm] at kal
 have KS : Hid (∀ wx, (Rd wx x s (8 * m) /\ Stays (only x) w wx) -> Calls Tryz.prog 97 #[.pointer (some ⟨x, 0, none⟩), .string s, .int .i64 16, .func (.func 25) #[] #[]] wx fun en w' => en = .returned (.bool true) /\ Rd w' x s (8 * m + 16) /\ Stays (only x) w w') := fun wx hh => (f_sum16_yes x s hs m he hc wx hh.1 (hL.only hh.2 hx4) hx4).mono fun en w' q => ⟨q.1, q.2.1, hh.2.trans q.2.2 (fun _ _ h => h)⟩
 have hbe : ((bitsAt s a1 (padOf a1) : Int) == 0) = true := eQt (by omega)
 clear hp hr hL
 generalize bitsAt s a1 (padOf a1) = u at *
 go_enter Tryz.func47, Tryz.ntmps47
 go_wp2_with fail
 refine kal.mono ?_
 rintro en w1 ⟨rfl, h1, h2⟩
 have HR : Hid (Rd w1 x s (8 * m) /\ Stays (only x) w w1) := ⟨h1, h2⟩
 clear h1 h2 kal
 go_wp2_with fail
 refine (KS.out _ HR.out).mono ?_
 rintro en w2 ⟨rfl, hr2, hs2⟩
 have HS : Hid (Rd w2 x s (8 * m + 16) /\ Stays (only x) w w2) := ⟨hr2, hs2⟩
 clear hr2 hs2
 clear KS HR
 go_wp2_with fail
 go_ret
 exact ⟨rfl, HS.out⟩
end Go.Proofs.YtfpfabmbipmipaaGreatDoor
