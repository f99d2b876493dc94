/- Own text. -/
import Derived.Test.YtfpfabmbipmipaaGreatDoorA29
set_option linter.unusedSimpArgs false
set_option linter.unusedVariables false
set_option maxRecDepth 20000
set_option maxHeartbeats 12800000
namespace Go.Proofs.YtfpfabmbipmipaaGreatDoor
open Go.RowKit
structure Hd where
 v : Bool
 sc : Int
 rc : Int
 cc : Int
 wc : Int
 num : Int
 sz : Int
 rt : Int
abbrev hdC (h : Hd) : Array Value := #[.bool h.v, .int .i64 h.sc, .int .i64 h.rc, .int .i64 h.cc, .int .i64 h.wc, .int .i64 h.num, .int .i64 h.sz, .int .i64 h.rt]
abbrev H0 : Hd := ⟨false, 0, 0, 0, 0, 0, 0, 0⟩
def two (x g : Nat) : Nat -> Prop := fun k => k = x ∨ k = g
structure HX (x g : Nat) (s : ByteArray) (h : Hd) (a : Nat) (w0 wx : World) : Prop where
 rd : Rd wx x s a
 hb : wx.heap[g]? = some (.cells (hdC h) 78 (0, 0))
 ne : x ≠ g
 st : Stays (two x g) w0 wx
section
variable {x g : Nat} {s : ByteArray} {h : Hd} {a a' : Nat} {w0 wx w' : World}
theorem HX.cells (k : HX x g s h a w0 wx) : wx.cell? ⟨g, 0, none⟩ = some (.bool h.v) /\ wx.cell? ⟨g, 1, none⟩ = some (.int .i64 h.sc) /\ wx.cell? ⟨g, 2, none⟩ = some (.int .i64 h.rc) /\ wx.cell? ⟨g, 3, none⟩ = some (.int .i64 h.cc) /\ wx.cell? ⟨g, 4, none⟩ = some (.int .i64 h.wc) /\ wx.cell? ⟨g, 5, none⟩ = some (.int .i64 h.num) /\ wx.cell? ⟨g, 6, none⟩ = some (.int .i64 h.sz) /\ wx.cell? ⟨g, 7, none⟩ = some (.int .i64 h.rt) := by
 refine ⟨?_, ?_, ?_, ?_, ?_, ?_, ?_, ?_⟩ <;> (rw [cell_of_row _ _ _ _ _ _ k.hb]; rfl)
theorem HX.f (k : HX x g s h a w0 wx) (o : Nat) : wx.frozen? ⟨g, o, none⟩ = false := by have := k.hb; simp [World.frozen?, this]
theorem HX.low (k : HX x g s h a w0 wx) (hb : Lo wx w') : HX x g s h a w0 w' :=
 ⟨by unfold Rd; rw [hb.block _ k.rd.lt]; exact k.rd, by rw [hb.block _ (lt_of_block k.hb)]; exact k.hb, k.ne, k.st.trans (Stays.of_below hb (two x g)) (fun _ _ h => h)⟩
theorem HX.next (k : HX x g s h a w0 wx) (hr : Rd w' x s a') (hs : Stays (only x) wx w') : HX x g s h a' w0 w' :=
 ⟨hr, by rw [hs.block _ (lt_of_block k.hb) (fun e => k.ne e.symm)]; exact k.hb, k.ne, k.st.trans hs (fun _ _ h => Or.inl h)⟩
theorem HX.put (k : HX x g s h a w0 wx) (j : Nat) (u : Value) (h' : Hd) (e : (hdC h).setIfInBounds j u = hdC h') : HX x g s h' a w0 (wx.setCell ⟨g, j, none⟩ u) :=
 ⟨k.rd.other _ _ (fun e => k.ne e.symm), by rw [block_setCell _ _ _ _ _ _ k.hb, e], k.ne, k.st.setCell _ _ (.inl (.inr rfl))⟩
end
theorem bytesOf_extract (s : ByteArray) (a b : Nat) : bytesOf (s.extract a b) = ((bytesOf s).take b).drop a := by
 unfold bytesOf
 rw [ByteArray.data_extract, Array.toList_extract, List.extract_eq_drop_take', List.map_drop, List.map_take]
theorem f_next (x : Nat) (s : ByteArray) (hs : s.size <= 140737488351232) (a k : Nat) (hk : k <= 56) (hl : a + k <= 8 * s.size) (w : World) (h : Rd w x s a) : Calls Tryz.prog 137 #[.pointer (some ⟨x, 0, none⟩), .int .i64 (k : Int)] w fun e w' => e = .returned (.int .i64 (bitsAt s a k : Int)) /\ Rd w' x s (a + k) /\ Stays (only x) w w' := by
 have kg := get_ok x s (by omega) a k (by omega) hl w h
 have hb := bitsAt_lt s a k
 have hp : 2 ^ k <= 2 ^ 56 := Nat.pow_le_pow_right (by decide) hk
 have hb2 : bitsAt s a k < 72057594037927936 := Nat.lt_of_lt_of_le hb hp
 clear hb hp
 generalize bitsAt s a k = v at *
 go_enter Tryz.func137, Tryz.ntmps137
 go_wp2_with fail
 refine kg.mono ?_
 rintro e w1 ⟨rfl, h1, h2⟩
 have H1 := kQ h1
 have H2 := kQ h2
 clear h1 h2 kg
 go_wp2_with fail
 go_ret
 exact ⟨by first | rfl | go_num, H1.out, H2.out⟩
theorem f_codes (x g : Nat) (s : ByteArray) (hs : s.size <= 140737488351232) (h4 : 4 <= s.size) (n15 n1 nsc nrc ncc nwc n31 : Nat) (e15 : bitsAt s 0 15 = n15) (e1 : bitsAt s 15 1 = n1) (esc : bitsAt s 16 4 = nsc) (erc : bitsAt s 20 4 = nrc) (ecc : bitsAt s 24 4 = ncc) (ewc : bitsAt s 28 3 = nwc) (e31 : bitsAt s 31 1 = n31) (v : Bool) (hv : ((n1 : Int) == 1) = v) (bb : Bool) (hbb : bb = true ↔ (n15 = 32764 /\ n31 = 0)) (w : World) (ha : HX x g s H0 0 w w) :
  Calls Tryz.prog 94 #[.pointer (some ⟨x, 0, none⟩), .pointer (some ⟨g, 0, none⟩)] w fun en w' => en = .returned (.bool bb) /\ HX x g s ⟨v, (nsc : Int), (nrc : Int), (ncc : Int), (nwc : Int), 0, 0, 0⟩ 32 w w' := by
 have HA := kQ ha
 have kl := left_spec x s (by omega) 0 (by omega) w ha.rd
 have K0 : Hid (∀ wx, Rd wx x s 0 -> Calls Tryz.prog 137 #[.pointer (some ⟨x, 0, none⟩), .int .i64 15] wx fun e w' => e = .returned (.int .i64 (n15 : Int)) /\ Rd w' x s 15 /\ Stays (only x) wx w') := fun wx h => by have hh := f_next x s hs 0 15 (by decide) (by omega) wx h; rw [e15] at hh; exact hh
 have K1 : Hid (∀ wx, Rd wx x s 15 -> Calls Tryz.prog 137 #[.pointer (some ⟨x, 0, none⟩), .int .i64 1] wx fun e w' => e = .returned (.int .i64 (n1 : Int)) /\ Rd w' x s 16 /\ Stays (only x) wx w') := fun wx h => by have hh := f_next x s hs 15 1 (by decide) (by omega) wx h; rw [e1] at hh; exact hh
 have K2 : Hid (∀ wx, Rd wx x s 16 -> Calls Tryz.prog 137 #[.pointer (some ⟨x, 0, none⟩), .int .i64 4] wx fun e w' => e = .returned (.int .i64 (nsc : Int)) /\ Rd w' x s 20 /\ Stays (only x) wx w') := fun wx h => by have hh := f_next x s hs 16 4 (by decide) (by omega) wx h; rw [esc] at hh; exact hh
 have K3 : Hid (∀ wx, Rd wx x s 20 -> Calls Tryz.prog 137 #[.pointer (some ⟨x, 0, none⟩), .int .i64 4] wx fun e w' => e = .returned (.int .i64 (nrc : Int)) /\ Rd w' x s 24 /\ Stays (only x) wx w') := fun wx h => by have hh := f_next x s hs 20 4 (by decide) (by omega) wx h; rw [erc] at hh; exact hh
 have K4 : Hid (∀ wx, Rd wx x s 24 -> Calls Tryz.prog 137 #[.pointer (some ⟨x, 0, none⟩), .int .i64 4] wx fun e w' => e = .returned (.int .i64 (ncc : Int)) /\ Rd w' x s 28 /\ Stays (only x) wx w') := fun wx h => by have hh := f_next x s hs 24 4 (by decide) (by omega) wx h; rw [ecc] at hh; exact hh
 have K5 : Hid (∀ wx, Rd wx x s 28 -> Calls Tryz.prog 137 #[.pointer (some ⟨x, 0, none⟩), .int .i64 3] wx fun e w' => e = .returned (.int .i64 (nwc : Int)) /\ Rd w' x s 31 /\ Stays (only x) wx w') := fun wx h => by have hh := f_next x s hs 28 3 (by decide) (by omega) wx h; rw [ewc] at hh; exact hh
 have K6 : Hid (∀ wx, Rd wx x s 31 -> Calls Tryz.prog 137 #[.pointer (some ⟨x, 0, none⟩), .int .i64 1] wx fun e w' => e = .returned (.int .i64 (n31 : Int)) /\ Rd w' x s 32 /\ Stays (only x) wx w') := fun wx h => by have hh := f_next x s hs 31 1 (by decide) (by omega) wx h; rw [e31] at hh; exact hh
 clear ha e15 e1 esc erc ecc ewc e31
 by_cases g31 : n31 = 0
 focus
  have hb31 : ((n31 : Int) == 0) = true := eQt (by omega)
  by_cases g15 : n15 = 32764
  focus
   have hb15 : ((n15 : Int) == 32764) = true := eQt (by omega)
   rw [bb_yes hbb ⟨g15, g31⟩]
   clear hbb g31 g15
   go_enter Tryz.func94, Tryz.ntmps94
   go_wp2_with fail
   refine kl.mono ?_
   rintro en w1 ⟨rfl, nn, hw1⟩
  rotate_left
  focus
   have hb15 : ((n15 : Int) == 32764) = false := eQf (by omega)
   rw [bb_no hbb (fun h => g15 h.1)]
   clear hbb g31 g15
   go_enter Tryz.func94, Tryz.ntmps94
   go_wp2_with fail
   refine kl.mono ?_
   rintro en w1 ⟨rfl, nn, hw1⟩
  rotate_left
 rotate_left 2
 focus
  have hb31 : ((n31 : Int) == 0) = false := eQf (by omega)
  rw [bb_no hbb (fun h => g31 h.2)]
  clear hbb g31
  go_enter Tryz.func94, Tryz.ntmps94
  go_wp2_with fail
  refine kl.mono ?_
  rintro en w1 ⟨rfl, nn, hw1⟩
 rotate_left
 all_goals
  have HB0 : Hid (HX x g s H0 0 w w1) := by rw [hw1]; exact HA.out.low (below_drewN _ _)
  clear kl hw1 HA
  go_wp2_with fail
  refine (K0.out _ HB0.out.rd).mono ?_
  rintro en wa0 ⟨rfl, hr, hs⟩
  have HC0 := kQ (HB0.out.next hr hs)
  clear hr hs HB0 K0
  have HB1 := kQ HC0.out
  clear HC0
  go_wp2_with fail
  refine (K1.out _ HB1.out.rd).mono ?_
  rintro en wa1 ⟨rfl, hr, hs⟩
  have HC1 := kQ (HB1.out.next hr hs)
  clear hr hs HB1 K1
  obtain ⟨z0, z1, z2, z3, z4, z5, z6, z7⟩ := HC1.out.cells
  have fz := HC1.out.f 0
  have HB2 : Hid (HX x g s ⟨v, 0, 0, 0, 0, 0, 0, 0⟩ 16 w (wa1.setCell ⟨g, 0, none⟩ (.bool v))) := HC1.out.put 0 _ _ rfl
  go_wp2_with fail
  clear z0 z1 z2 z3 z4 z5 z6 z7 fz HC1
  generalize wa1.setCell ⟨g, 0, none⟩ (.bool v) = wb2 at *
  refine (K2.out _ HB2.out.rd).mono ?_
  rintro en wa2 ⟨rfl, hr, hs⟩
  have HC2 := kQ (HB2.out.next hr hs)
  clear hr hs HB2 K2
  obtain ⟨z0, z1, z2, z3, z4, z5, z6, z7⟩ := HC2.out.cells
  have fz := HC2.out.f 1
  have HB3 : Hid (HX x g s ⟨v, (nsc : Int), 0, 0, 0, 0, 0, 0⟩ 20 w (wa2.setCell ⟨g, 1, none⟩ (.int .i64 (nsc : Int)))) := HC2.out.put 1 _ _ rfl
  go_wp2_with fail
  clear z0 z1 z2 z3 z4 z5 z6 z7 fz HC2
  generalize wa2.setCell ⟨g, 1, none⟩ (.int .i64 (nsc : Int)) = wb3 at *
  refine (K3.out _ HB3.out.rd).mono ?_
  rintro en wa3 ⟨rfl, hr, hs⟩
  have HC3 := kQ (HB3.out.next hr hs)
  clear hr hs HB3 K3
  obtain ⟨z0, z1, z2, z3, z4, z5, z6, z7⟩ := HC3.out.cells
  have fz := HC3.out.f 2
  have HB4 : Hid (HX x g s ⟨v, (nsc : Int), (nrc : Int), 0, 0, 0, 0, 0⟩ 24 w (wa3.setCell ⟨g, 2, none⟩ (.int .i64 (nrc : Int)))) := HC3.out.put 2 _ _ rfl
  go_wp2_with fail
  clear z0 z1 z2 z3 z4 z5 z6 z7 fz HC3
  generalize wa3.setCell ⟨g, 2, none⟩ (.int .i64 (nrc : Int)) = wb4 at *
  refine (K4.out _ HB4.out.rd).mono ?_
  rintro en wa4 ⟨rfl, hr, hs⟩
  have HC4 := kQ (HB4.out.next hr hs)
  clear hr hs HB4 K4
  obtain ⟨z0, z1, z2, z3, z4, z5, z6, z7⟩ := HC4.out.cells
  have fz := HC4.out.f 3
  have HB5 : Hid (HX x g s ⟨v, (nsc : Int), (nrc : Int), (ncc : Int), 0, 0, 0, 0⟩ 28 w (wa4.setCell ⟨g, 3, none⟩ (.int .i64 (ncc : Int)))) := HC4.out.put 3 _ _ rfl
  go_wp2_with fail
  clear z0 z1 z2 z3 z4 z5 z6 z7 fz HC4
  generalize wa4.setCell ⟨g, 3, none⟩ (.int .i64 (ncc : Int)) = wb5 at *
  refine (K5.out _ HB5.out.rd).mono ?_
  rintro en wa5 ⟨rfl, hr, hs⟩
  have HC5 := kQ (HB5.out.next hr hs)
  clear hr hs HB5 K5
  obtain ⟨z0, z1, z2, z3, z4, z5, z6, z7⟩ := HC5.out.cells
  have fz := HC5.out.f 4
  have HB6 : Hid (HX x g s ⟨v, (nsc : Int), (nrc : Int), (ncc : Int), (nwc : Int), 0, 0, 0⟩ 31 w (wa5.setCell ⟨g, 4, none⟩ (.int .i64 (nwc : Int)))) := HC5.out.put 4 _ _ rfl
  go_wp2_with fail
  clear z0 z1 z2 z3 z4 z5 z6 z7 fz HC5
  generalize wa5.setCell ⟨g, 4, none⟩ (.int .i64 (nwc : Int)) = wb6 at *
 rotate_left 3
 all_goals
  refine (K6.out _ HB6.out.rd).mono ?_
  rintro en wa6 ⟨rfl, hr, hs⟩
  have HC6 := kQ (HB6.out.next hr hs)
  clear hr hs HB6 K6
  go_wp2_with fail
  go_ret
  exact ⟨rfl, HC6.out⟩
theorem f_codes_no (x : Nat) (g : Addr) (s : ByteArray) (h4 : s.size < 4) (w : World) (ha : Rd w x s 0) :
  Calls Tryz.prog 94 #[.pointer (some ⟨x, 0, none⟩), .pointer (some g)] w fun en w' => en = .returned (.bool false) /\ ∃ n, w' = w.drewN n := by
 have kl := left_spec x s (by omega) 0 (by omega) w ha
 clear ha
 go_enter Tryz.func94, Tryz.ntmps94
 go_wp2_with fail
 refine kl.mono ?_
 rintro en w1 ⟨rfl, nn, hw1⟩
 subst hw1
 go_wp2_with fail
 go_ret
 exact ⟨rfl, _, rfl⟩
end Go.Proofs.YtfpfabmbipmipaaGreatDoor
namespace Go.Proofs.YtfpfabmbipmipaaGreatDoor
open Go.RowKit
namespace S2
theorem Tryz.info5 : (Tryz.prog.info? 5).map (fun i => (i.zero, i.size, i.bytes)) = some (some (.int .u8 0), 1, 1) := by kernel_rfl
theorem made_run (n : Nat) (h : n <= 281474976710656) (w : World) :
  (Instr.makeSlice 44 (.int .i64 (n : Int)) (.int .i64 (n : Int))).run Tryz.prog w = .ok (.slice (some ⟨w.heap.size, 0, none⟩) n n) (w.alloc (.cells (madeCells #[.int .u8 0] n) 5)) :=
 run_make_row' 44 5 (.int .u8 0) 1 Tryz.underlying44 Tryz.info5 rfl .i64 .i64 n (by omega) (by omega) w
theorem textOf_eq (bs : List Nat) : textOf bs = strOfNums (bs.map fun (b : Nat) => (b : Int)) := by
 unfold textOf strOfNums
 rw [List.map_map]
 congr 2
theorem conv_row {w : World} {g cap : Nat} {f : Nat -> Nat} {n : Nat} (h : w.rowIs g 5 n (fun i => .int .u8 (f i : Int))) :
  (convert 44 9 (.slice (some ⟨g, 0, none⟩) n cap)).run Tryz.prog w = .ok (.string (textOf ((List.range n).map f))) w := by
 rw [textOf_eq]
 refine run_convert_bytes_arg w 44 5 Tryz.underlying44 Tryz.underlying5 g 0 n cap _ (by simp) (fun i hi => ?_) 9 Tryz.underlying9
 rw [Nat.zero_add, h.cell hi]
 simp [List.getD, hi]
theorem i64_and63 (n : Int) : bits BinOp.and IntKind.i64 n 63 = n % 64 := by
 show IntKind.i64.wrap ((BitVec.ofInt 64 n &&& BitVec.ofInt 64 63).toNat : Int) = _
 rw [BitVec.toNat_and, BitVec.toNat_ofInt, show (BitVec.ofInt 64 63).toNat = 2 ^ 6 - 1 from rfl, Nat.and_two_pow_sub_one_eq_mod, IntKind.wrap_i64]
 omega
set_option maxRecDepth 100000 in
theorem len8_spec (x : Nat) (hx : x < 256) (w : World) : Calls Tryz.prog 218 #[.int .u8 (x : Int)] w fun e w' => e = .returned (.int .i64 (bitLen x : Int)) /\ w' = w := by
 go_enter Tryz.func218, Tryz.ntmps218
 go_wp2
 go_ret
 refine ⟨ret_int ?_, rfl⟩
 rw [len8tab_get x]
 have := bitLen_le8 x hx
 unfold wrap64
 omega
theorem lz8_spec (x : Nat) (hx : x < 256) (w : World) : Calls Tryz.prog 197 #[.int .u8 (x : Int)] w fun e w' => e = .returned (.int .i64 ((8 - bitLen x : Nat) : Int)) /\ w' = w := by
 have hb := bitLen_le8 x hx
 go_enter Tryz.func197, Tryz.ntmps197
 go_wp2_with (go_at_call 218; refine (len8_spec x hx w).mono ?_; rintro e w' ⟨rfl, rfl⟩)
 go_ret
 refine ⟨ret_int ?_, rfl⟩
 omega
theorem hc_all : ∀ b : Fin 256, ((8 - bitLen (255 - b.val)) = 0 /\ hc b.val = 1) ∨ ((8 - bitLen (255 - b.val)) = 1 /\ hc b.val = 0) ∨ ((8 - bitLen (255 - b.val)) = 8 /\ hc b.val = 0) ∨
  (2 <= (8 - bitLen (255 - b.val)) /\ (8 - bitLen (255 - b.val)) <= 7 /\ hc b.val = (8 - bitLen (255 - b.val))) := by decide +kernel
theorem not_byte : ∀ b : Fin 256, bits BinOp.xor IntKind.u8 IntKind.u8.max (b.val : Int) = ((255 - b.val : Nat) : Int) := by decide +kernel
theorem headCount_spec (b : Nat) (hb : b < 256) (w : World) : Calls Tryz.prog 175 #[.int .u8 (b : Int)] w fun e w' => e = .returned (.int .i64 (hc b : Int)) /\ w' = w := by
 have hall := hc_all ⟨b, hb⟩
 have hx := not_byte ⟨b, hb⟩
 simp only at hall hx
 have hs : IntKind.u8.signed = false := rfl
 have hL := lz8_spec (255 - b) (by omega) w
 generalize 8 - bitLen (255 - b) = o at *
 rcases hall with ⟨rfl, e⟩ | ⟨rfl, e⟩ | ⟨rfl, e⟩ | ⟨h2, h7, e⟩
 focus
  rw [e]
  clear e
 rotate_left
 focus
  rw [e]
  clear e
 rotate_left
 focus
  rw [e]
  clear e
 rotate_left
 focus
  rw [e]
  clear e
  have n0 : ((o : Int) == 0) = false := by simp; omega
  have n1 : ((o : Int) == 1) = false := by simp; omega
  have n8 : ((o : Int) == 8) = false := by simp; omega
 rotate_left
 all_goals
  go_enter Tryz.func175, Tryz.ntmps175
  go_wp2_with fail
  refine hL.mono ?_
  rintro e w1 ⟨rfl, rfl⟩
  go_wp2
  go_ret
  exact ⟨rfl, rfl⟩
theorem headMark_spec (k : Nat) (h1 : 1 <= k) (h7 : k <= 7) (w : World) : Calls Tryz.prog 154 #[.int .i64 (k : Int)] w fun e w' => e = .returned (.int .i64 (hm k : Int)) /\ w' = w := by
 rcases seven k h1 h7 with rfl | rfl | rfl | rfl | rfl | rfl | rfl <;>
 (go_enter Tryz.func154, Tryz.ntmps154; go_wp2; go_ret; exact ⟨rfl, rfl⟩)
theorem cl_test (n c : Nat) (h : n < 68719476736) (h1 : 128 <= n) (h2 : 2 <= c) (hc : c <= clen n) : (((n : Int) / 2 ^ (5 * c + 1)) != 0) = decide (c < clen n) := by
 have h7 := (clen_range n).2
 have e : ((2 : Int) ^ (5 * c + 1)) = ((2 ^ (5 * c + 1) : Nat) : Int) := by simp
 have e2 : ((n : Int) / ((2 ^ (5 * c + 1) : Nat) : Int)) = ((n / 2 ^ (5 * c + 1) : Nat) : Int) := by simp
 have key : n / 2 ^ (5 * c + 1) = 0 ↔ ¬ c < clen n := by
  rw [Nat.div_eq_zero_iff_lt (Nat.two_pow_pos _)]
  unfold clen at *
  rcases seven c (by omega) (by omega) with rfl | rfl | rfl | rfl | rfl | rfl | rfl <;> (repeat' split) <;> simp <;> omega
 rw [e, e2, Bool.eq_iff_iff]
 simp only [bne_iff_ne, ne_eq, decide_eq_true_eq]
 omega
theorem codedLen_spec (n : Nat) (h : n < 68719476736) (w : World) : Calls Tryz.prog 153 #[.int .i64 (n : Int)] w fun e w' => e = .returned (.int .i64 (clen n : Int)) /\ w' = w := by
 by_cases hn : n < 128
 ·have e : clen n = 1 := by unfold clen; rw [if_pos hn]
  rw [e]
  go_enter Tryz.func153, Tryz.ntmps153
  go_wp2
  go_ret
  exact ⟨rfl, rfl⟩
 ·have hr := clen_range n
  have h2 : 2 <= clen n := by unfold clen; rw [if_neg hn]; (repeat' split) <;> omega
  have ht := cl_test n
  generalize clen n = cl at *
  go_enter Tryz.func153, Tryz.ntmps153
  go_wp2
  go_loop [3] (fun t => ∃ (c : Nat), 2 <= c /\ c <= cl /\ t = .int .i64 (c : Int)) (fun t => cl - (intOf t).toNat)
  case atStart => exact ⟨2, by omega, by omega, rfl⟩
  case round =>
   obtain ⟨c, hc2, hcl, rfl⟩ := hrel
   have hT := ht c h (by omega) hc2 hcl
   clear ht
   by_cases hlt : c < cl
   ·rw [decide_eq_true hlt] at hT
    go_wp2
    go_round
    case rel => exact ⟨c + 1, by omega, by omega, by go_num⟩
    case measure => simp [intOf]; omega
   ·rw [decide_eq_false hlt] at hT
    obtain rfl : c = cl := by omega
    go_wp2
    go_ret
    exact ⟨rfl, rfl⟩
def codB (n : Int) : Bool := decide (0 <= n /\ n < 68719476736)
def codT (n : Int) : ByteArray := if codB n then textOf (codeL n.toNat (clen n.toNat)) else ⟨#[]⟩
def codE (n : Int) : Int := if codB n then 0 else 11
theorem codB_of (m : Nat) (h : m < 68719476736) : codB (m : Int) = true := by unfold codB; exact decide_eq_true (by omega)
theorem codT_nat (m : Nat) (h : m < 68719476736) : codT (m : Int) = textOf (codeL m (clen m)) := by unfold codT; rw [codB_of m h]; simp
theorem codE_nat (m : Nat) (h : m < 68719476736) : codE (m : Int) = 0 := by unfold codE; rw [codB_of m h]; simp
theorem pow6 (i : Nat) : (2 : Nat) ^ (6 * i) = 64 ^ i := by rw [Nat.pow_mul]
theorem or128 : ∀ b : Fin 64, bits BinOp.or IntKind.i64 128 (b.val : Int) = ((128 + b.val : Nat) : Int) := by decide +kernel
theorem tail_at (n i : Nat) : bits BinOp.or IntKind.i64 128 (bits BinOp.and IntKind.i64 ((n : Int) / 2 ^ (6 * i)) 63) % 256 = ((128 + n / 64 ^ i % 64 : Nat) : Int) := by
 have e : ((2 : Int) ^ (6 * i)) = ((64 ^ i : Nat) : Int) := by rw [<- pow6]; simp
 have e2 : ((n : Int) / ((64 ^ i : Nat) : Int)) % 64 = ((n / 64 ^ i % 64 : Nat) : Int) := by omega
 have hm := Nat.mod_lt (n / 64 ^ i) (show 64 > 0 by decide)
 have := or128 ⟨n / 64 ^ i % 64, hm⟩
 simp only at this
 rw [i64_and63, e, e2, this]
 omega
theorem head_at (n k : Nat) (h1 : 1 <= k) (h7 : k <= 7) (h : n < cbound k) : bits BinOp.or IntKind.i64 (hm k : Int) ((n : Int) / 2 ^ (6 * (k - 1))) % 256 = ((codeAt n k 0 : Nat) : Int) := by
 have e : ((2 : Int) ^ (6 * (k - 1))) = ((64 ^ (k - 1) : Nat) : Int) := by rw [<- pow6]; simp
 have e2 : ((n : Int) / ((64 ^ (k - 1) : Nat) : Int)) = ((n / 64 ^ (k - 1) : Nat) : Int) := by omega
 have ht := top_lt n k h1 h7 h
 have all : ∀ k : Fin 8, ∀ q : Fin 128, 1 <= k.val -> q.val < (if k.val = 1 then 128 else 2 ^ (7 - k.val)) -> bits BinOp.or IntKind.i64 (hm k.val : Int) (q.val : Int) % 256 = ((hm k.val + q.val : Nat) : Int) := by decide +kernel
 have hq : n / 64 ^ (k - 1) < 128 := by
  rcases seven k h1 h7 with rfl | rfl | rfl | rfl | rfl | rfl | rfl <;> simp at ht ⊢ <;> omega
 rw [e, e2]
 unfold codeAt
 rw [if_pos rfl]
 exact all ⟨k, by omega⟩ ⟨n / 64 ^ (k - 1), hq⟩ h1 ht
theorem coded_ok (n : Nat) (h : n < 68719476736) (w : World) :
  Calls Tryz.prog 113 #[.int .i64 (n : Int)] w fun e w' => e = .returned (.tuple #[.string (codT n), .int .i64 (codE n)]) /\ Lo w w' := by
 rw [codT_nat n h, codE_nat n h]
 have hr := clen_range n
 have hbd := clen_bound n h
 have hcl := codedLen_spec n h w
 obtain ⟨k, hk⟩ : ∃ k, k = clen n := ⟨_, rfl⟩
 rw [<- hk] at hr hbd hcl ⊢
 clear hk
 have hmk := made_run k (by omega)
 have hrow := World.rowIs_made w (.int .u8 0) k 5
 have hbel : Lo w (w.alloc (.cells (madeCells #[.int .u8 0] k) 5)) := aQ
 have HB := kQ hbd
 clear hbd
 go_enter Tryz.func113, Tryz.ntmps113
 go_wp2_with fail
 refine hcl.mono ?_
 rintro e w1 ⟨rfl, rfl⟩
 clear hcl
 go_wp2
 go_loopw [18] (fun t wr => ∃ (i : Nat), i <= k /\ t = .int .i64 (i : Int) /\ wr.rowIs w1.heap.size 5 k (fun j => .int .u8 ((if k - 1 - j < i then 128 + n / 64 ^ (k - 1 - j) % 64 else 0 : Nat) : Int)) /\ Lo w1 wr) (fun t _ => k - (intOf t).toNat)
 case atStart => exact ⟨0, Nat.zero_le _, rfl, hrow.congr (fun i _ => by simp), hbel⟩
 case round =>
  obtain ⟨i, hi, rfl, hr, hb⟩ := hrel
  by_cases hlt : i < k
  ·have hc := hr.cell (i := k - 1 - i) (by omega)
   have hf := hr.frozen (k - 1 - i)
   have hta := tail_at n i
   go_wp2
   go_roundw
   case rel =>
    refine ⟨i + 1, by omega, by go_num, ?_, hb.setCell (by simp) _⟩
    refine (hr.set (k - 1 - i) _).congr (fun j hj => ?_)
    by_cases e : j = k - 1 - i
    ·subst e
     rw [if_pos rfl, show k - 1 - (k - 1 - i) = i from by omega, if_pos (by omega)]
     simp
    ·rw [if_neg e]
     congr 3
     by_cases h : k - 1 - j < i
     ·simp [h, show k - 1 - j < i + 1 by omega]
     ·simp [h, show ¬ k - 1 - j < i + 1 by omega]
   case measure => simp [intOf]; omega
  ·obtain rfl : i = k := by omega
   have hr2 : wr.rowIs w1.heap.size 5 i (fun j => .int .u8 ((128 + n / 64 ^ (i - 1 - j) % 64 : Nat) : Int)) := hr.congr (fun j hj => by rw [if_pos (by omega)])
   have hc := hr2.cell (i := 0) (by omega)
   have hf := hr2.frozen 0
   have hsh : Op.shift BinOp.shr IntKind.i64 (n : Int) IntKind.i64 (IntKind.i64.wrap (6 * IntKind.i64.wrap ((i : Int) - 1))) = pure (.int .i64 ((n : Int) / 2 ^ (6 * (i - 1)))) := by
    have e : IntKind.i64.wrap (6 * IntKind.i64.wrap ((i : Int) - 1)) = ((6 * (i - 1) : Nat) : Int) := by
     rw [IntKind.wrap_i64, IntKind.wrap_i64]
     omega
    rw [e]
    exact shift_shr IntKind.i64 IntKind.i64 (n : Int) ((6 * (i - 1) : Nat) : Int) (by omega) (by show _ <= ((64 : Nat) : Int); omega)
   have hha := head_at n i (by omega) (by omega) HB.out
   generalize (n : Int) / 2 ^ (6 * (i - 1)) = q at *
   obtain ⟨c0, hc0⟩ : ∃ c0, c0 = codeAt n i 0 := ⟨_, rfl⟩
   rw [<- hc0] at hha
   have HC : Hid _ := hc0
   clear hr hc0
   go_wp2
   go_region_with (go_at_call 154; refine (headMark_spec i (by omega) (by omega) _).mono ?_; rintro e w' ⟨rfl, rfl⟩)
   have hr3 : (wr.setCell ⟨w1.heap.size, 0, none⟩ (.int .u8 (c0 : Int))).drew.rowIs w1.heap.size 5 i (fun j => .int .u8 ((codeAt n i j : Nat) : Int)) := by
    refine ((hr2.set 0 _).drew).congr (fun j hj => ?_)
    by_cases e : j = 0
    ·subst e
     rw [if_pos rfl, HC.out]
    ·rw [if_neg e]
     unfold codeAt
     rw [if_neg e]
   have hb3 : Lo w1 (wr.setCell ⟨w1.heap.size, 0, none⟩ (.int .u8 (c0 : Int))).drew := (hb.setCell (by simp) _).drew
   generalize (wr.setCell ⟨w1.heap.size, 0, none⟩ (.int .u8 (c0 : Int))).drew = w3 at *
   have hcv := conv_row (cap := i) hr3
   clear hr3 hr2 hc hf hsh hha
   go_wp2
   go_ret2
   exact ⟨rfl, hb3⟩
theorem i64_or_nat (a b : Nat) (ha : a < 9223372036854775808) (hb : b < 9223372036854775808) : bits .or .i64 (a : Int) (b : Int) = ((a ||| b : Nat) : Int) := by
 show IntKind.i64.wrap ((BitVec.ofInt 64 (a : Int) ||| BitVec.ofInt 64 (b : Int)).toNat : Int) = _
 rw [BitVec.toNat_or, BitVec.toNat_ofInt, BitVec.toNat_ofInt]
 have ea : ((a : Int) % ((2 ^ 64 : Nat) : Int)).toNat = a := by omega
 have eb : ((b : Int) % ((2 ^ 64 : Nat) : Int)).toNat = b := by omega
 rw [ea, eb]
 have hl : a ||| b < 2 ^ 63 := Nat.or_lt_two_pow ha hb
 rw [IntKind.wrap_i64]
 omega
theorem xor_head : ∀ b : Fin 256, hc b.val ≠ 0 -> bits BinOp.xor IntKind.i64 (b.val : Int) (hm (hc b.val) : Int) = ((b.val - hm (hc b.val) : Nat) : Int) := by decide +kernel
theorem not63 : ∀ b : Fin 256, (bits BinOp.andNot IntKind.u8 (b.val : Int) 63 != 128) = decide (b.val < 128 ∨ 192 <= b.val) := by decide +kernel
theorem or_tail (n b : Nat) (hn : n < 68719476736) (hb : b < 256) (h : ¬ (b < 128 ∨ 192 <= b)) : bits BinOp.or IntKind.i64 ((n : Int) * 64) ((b : Int) % 64) = ((n * 64 + (b - 128) : Nat) : Int) := by
 have e : (b : Int) % 64 = ((b - 128 : Nat) : Int) := by omega
 have e2 : (n : Int) * 64 = ((n * 64 : Nat) : Int) := by simp
 rw [e, e2, i64_or_nat _ _ (by omega) (by omega), nat_join 6 _ _ (by omega) (by omega)]
theorem getD_byte (s : ByteArray) (i : Nat) (h : i < s.size) : (bytesOf s).getD i 0 = (s[i]'h).toNat := by
 rw [List.getD_eq_getElem?_getD, List.getElem?_eq_getElem (by rw [bytesOf_length]; exact h), bytesOf_get s i h]
 rfl
def triple (u : Nat × Nat × Nat) : Value := .tuple #[.int .i64 (u.1 : Int), .int .i64 (u.2.1 : Int), .int .i64 (u.2.2 : Int)]
theorem uncode_none (l : List Nat) (h : l.length = 0) : uncode l = (0, 0, 10) := by unfold uncode; rw [if_pos h]
theorem uncode_bad (l : List Nat) (h : ¬ l.length = 0) (b : Nat) (hb : l.getD 0 0 = b) (hc0 : hc b = 0) : uncode l = (0, 0, 2) := by unfold uncode; rw [if_neg h, hb, if_pos hc0]
theorem uncode_of (l : List Nat) (h : ¬ l.length = 0) (b k : Nat) (hb : l.getD 0 0 = b) (hk : hc b = k) (hk0 : k ≠ 0) : uncode l = uncEnd k (unc l (k - 1) 1 (b - hm k)) := by
 unfold uncode
 rw [if_neg h, hb, hk, if_neg hk0]
theorem empty_of_size (s : ByteArray) (h : s.size = 0) : s = ⟨#[]⟩ := by
 apply ByteArray.ext
 exact Array.eq_empty_of_size_eq_zero h
theorem not_empty (s : ByteArray) (h : ¬ s.size = 0) : s.toList.isEmpty = false := by
 rw [ByteArray.toList_eq, List.isEmpty_eq_false_iff]
 intro e
 apply h
 have : s.data.toList.length = 0 := by rw [e]; rfl
 rw [Array.length_toList] at this
 exact this
theorem uncEnd_err (k e : Nat) (h : e ≠ 0) : uncEnd k (0, e) = (0, 0, e) := by unfold uncEnd; rw [if_pos h]
theorem uncEnd_long (k n : Nat) (h : clen n < k) : uncEnd k (n, 0) = (0, 0, 2) := by unfold uncEnd; rw [if_neg (by simp), if_pos h]
theorem uncEnd_ok (k n : Nat) (h : ¬ clen n < k) : uncEnd k (n, 0) = (n, k, 0) := by unfold uncEnd; rw [if_neg (by simp), if_neg h]
theorem bound_step (n c m B : Nat) (hc : c < 64) (h : (n + 1) * 64 ^ (m + 1) <= B) : (n * 64 + c + 1) * 64 ^ m <= B := by
 have h1 : n * 64 + c + 1 <= (n + 1) * 64 := by omega
 have h2 : (n * 64 + c + 1) * 64 ^ m <= (n + 1) * 64 * 64 ^ m := Nat.mul_le_mul_right _ h1
 have e : (n + 1) * 64 ^ (m + 1) = (n + 1) * 64 * 64 ^ m := by rw [Nat.pow_succ, Nat.mul_comm (64 ^ m), Nat.mul_assoc]
 omega
theorem bound_small (n m k : Nat) (h1 : 1 <= k) (h7 : k <= 7) (h : (n + 1) * 64 ^ m <= cbound k) : n < 68719476736 /\ n < cbound k := by
 have := cbound_le k h1 h7
 have h2 : n + 1 <= (n + 1) * 64 ^ m := Nat.le_mul_of_pos_right _ (Nat.pow_pos (by decide))
 omega
theorem wrap_byte (b : UInt8) : wrap64 (b.toNat : Int) = (b.toNat : Int) := by
 have := UInt8.toNat_lt b
 unfold wrap64
 omega
theorem uncoded_spec (s : ByteArray) (hs : s.size <= 200000000000000) (w : World) :
  Calls Tryz.prog 138 #[.string s] w fun e w' => e = .returned (triple (uncode (bytesOf s))) /\ ∃ n, w' = w.drewN n := by
 by_cases h0 : s.size = 0
 ·have e := empty_of_size s h0
  subst e
  rw [uncode_none _ rfl]
  go_enter Tryz.func138, Tryz.ntmps138
  go_wp2
  go_ret3
  exact ⟨rfl, 0, rfl⟩
 ·have hl : ¬ (bytesOf s).length = 0 := by rw [bytesOf_length]; exact h0
  have hp : 0 < s.size := by omega
  have hg := getD_byte s 0 hp
  have hx : (s[0]'hp).toNat < 256 := UInt8.toNat_lt _
  have hem := not_empty s h0
  obtain ⟨b, hb⟩ : ∃ b, b = (s[0]'hp).toNat := ⟨_, rfl⟩
  rw [<- hb] at hg hx
  have hcs := headCount_spec b hx w
  have hr7 := hc_range b
  by_cases hk0 : hc b = 0
  ·rw [uncode_bad _ hl b hg hk0]
   rw [hk0] at hcs
   rw [hb] at hcs
   clear hg hr7 hk0 hx hb
   go_enter Tryz.func138, Tryz.ntmps138
   go_wp2_with fail
   refine hcs.mono ?_
   rintro e w1 ⟨rfl, rfl⟩
   go_wp2
   go_ret3
   exact ⟨rfl, 0, rfl⟩
  ·have hf := hc_first b hx hk0
   have hxo := xor_head ⟨b, hx⟩ hk0
   simp only at hxo
   obtain ⟨k, hk⟩ : ∃ k, k = hc b := ⟨_, rfl⟩
   rw [<- hk] at hcs hr7 hk0 hf hxo
   rw [uncode_of _ hl b k hg hk.symm hk0]
   have HF := kQ hf.2
   have hne : ((k : Int) == 0) = false := by simp; omega
   have hmw : ∀ w, Calls Tryz.prog 154 #[.int .i64 (k : Int)] w fun e w' => e = .returned (.int .i64 (hm k : Int)) /\ w' = w := fun w => headMark_spec k (by omega) (by omega) w
   generalize b - hm k = n0 at *
   generalize hm k = m0 at *
   rw [hb] at hcs hxo
   clear hg hk hb hf
   go_enter Tryz.func138, Tryz.ntmps138
   go_wp2_with fail
   refine hcs.mono ?_
   rintro e w1 ⟨rfl, rfl⟩
   go_wp2
   go_quiet ((go_at_call 154; exact Calls.quiet_of_same (hmw _)))
   go_wp2
   go_loopw [6, 7] (fun x y wr => ∃ (i n : Nat), 1 <= i /\ i <= k /\ i <= s.size /\ (n + 1) * 64 ^ (k - i) <= cbound k /\ unc (bytesOf s) (k - i) i n = unc (bytesOf s) (k - 1) 1 n0 /\ x = .int .i64 (n : Int) /\ y = .int .i64 (i : Int) /\ ∃ nd, wr = w1.drewN nd) (fun _ y _ => k - (intOf y).toNat)
   case atStart => exact ⟨1, n0, by omega, by omega, by omega, HF.out, rfl, by rw [wrap_byte, hxo], rfl, _, rfl⟩
   case round =>
    obtain ⟨i, n, hi1, hik, his, hbn, hun, rfl, rfl, nd, rfl⟩ := hrel
    have hbs := bound_small n (k - i) k (by omega) hr7 hbn
    by_cases hlt : i < k
    ·obtain ⟨m, hm⟩ : ∃ m, k - i = m + 1 := ⟨k - i - 1, by omega⟩
     rw [hm] at hun hbn
     by_cases he : i = s.size
     ·have hR : uncEnd k (unc (bytesOf s) (k - 1) 1 n0) = (0, 0, 10) := by
       rw [<- hun, unc_short _ _ _ _ (by rw [bytesOf_length]; omega), uncEnd_err k 10 (by decide)]
      have HR : Hid _ := hR
      subst he
      clear hun hbn hR hm
      go_wp2
      go_ret3
      exact ⟨by rw [HR.out]; rfl, nd, rfl⟩
     ·have hsi : i < s.size := by omega
      have hgi := getD_byte s i hsi
      have hxi : (s[i]'hsi).toNat < 256 := UInt8.toNat_lt _
      have hn63 := not63 ⟨(s[i]'hsi).toNat, hxi⟩
      simp only at hn63
      have hie : ((i : Int) == (s.size : Int)) = false := by simp; omega
      by_cases hbad : (s[i]'hsi).toNat < 128 ∨ 192 <= (s[i]'hsi).toNat
      ·have hR : uncEnd k (unc (bytesOf s) (k - 1) 1 n0) = (0, 0, 2) := by
        rw [<- hun, unc_bad _ _ _ _ (by rw [bytesOf_length]; omega) (by rw [hgi]; exact hbad), uncEnd_err k 2 (by decide)]
       have HR : Hid _ := hR
       rw [decide_eq_true hbad] at hn63
       clear hun hbn hR hm hbad hgi
       go_wp2
       go_ret3
       exact ⟨by rw [HR.out]; rfl, nd, rfl⟩
      ·rw [decide_eq_false hbad] at hn63
       have hor := or_tail n _ hbs.1 hxi hbad
       have hst := unc_step (bytesOf s) m i n (by rw [bytesOf_length]; omega) (by rw [hgi]; exact hbad)
       rw [hgi, hun] at hst
       have hbn2 := bound_step n ((s[i]'hsi).toNat - 128) m _ (by omega) hbn
       have HST : Hid _ := hst
       have HBN : Hid _ := hbn2
       have hn2 := hbs.1
       have hge : 128 <= (s[i]'hsi).toNat := by omega
       clear hun hbn hbad hgi hst hbn2 hbs
       go_wp2
       go_roundw
       case rel => exact ⟨i + 1, _, by omega, by omega, by omega, by rw [show k - (i + 1) = m from by omega]; exact HBN.out, by rw [show k - (i + 1) = m from by omega]; exact HST.out.symm, by go_num, by go_num, nd, rfl⟩
       case measure => simp [intOf]; omega
    focus
     obtain rfl : i = k := by omega
     rw [Nat.sub_self, unc_end] at hun
     have hcl := codedLen_spec n hbs.1 (w1.drewN nd)
     by_cases hlo : clen n < i
     focus
      have HR : Hid (uncEnd i (unc (bytesOf s) (i - 1) 1 n0) = (0, 0, 2)) := by
       show _ = _
       rw [<- hun, uncEnd_long i n hlo]
     rotate_left
     focus
      have HR : Hid (uncEnd i (unc (bytesOf s) (i - 1) 1 n0) = (n, i, 0)) := by
       show _ = _
       rw [<- hun, uncEnd_ok i n hlo]
     rotate_left
    rotate_left 2
    all_goals
     clear hun hbn
     go_wp2_with fail
     refine hcl.mono ?_
     rintro e w2 ⟨rfl, rfl⟩
     go_wp2
     go_ret3
     exact ⟨by rw [HR.out]; rfl, nd, rfl⟩
end S2
end Go.Proofs.YtfpfabmbipmipaaGreatDoor
