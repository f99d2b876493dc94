/- Own text. -/
import Derived.Test.YtfpfabmbipmipaaGreatDoorD33
set_option linter.unusedSimpArgs false
set_option linter.unusedVariables false
set_option maxRecDepth 20000
set_option maxHeartbeats 12800000
namespace Go.Proofs.YtfpfabmbipmipaaGreatDoor
open Go.RowKit
theorem codeN_lt (n : Nat) (h : n < 68719476736) : ∀ b ∈ codeL n (clen n), b < 256 := codeL_lt n (clen n) (clen_range n).1 (clen_range n).2 (clen_bound n h)
theorem foot_only {p : Nat} {w w' : World} (h : Stays (foot p none) w w') : Stays (only p) w w' := h.mono (fun k _ hk => by
 rcases hk with hk | hk
 ·exact hk
 ·cases hk)
theorem f_bit (v : Bool) (w : World) : Calls Tryz.prog 57 #[.bool v] w fun e w' => e = .returned (.int .u64 (if v then 1 else 0)) /\ w' = w := by
 cases v
 ·show Calls _ _ _ _ fun e w' => e = .returned (.int .u64 0) /\ w' = w
  go_enter Tryz.func57, Tryz.ntmps57
  go_wp2_with fail
  go_ret;exact ⟨rfl, rfl⟩
 ·show Calls _ _ _ _ fun e w' => e = .returned (.int .u64 1) /\ w' = w
  go_enter Tryz.func57, Tryz.ntmps57
  go_wp2_with fail
  go_ret;exact ⟨rfl, rfl⟩
theorem f_wnum (n : Nat) (hn : n < 68719476736) (p : Nat) (ao : OA) (B : List Nat) (h01 : Bits01 B) (hB : B.length <= 1000000000) (w : World) (hw : WrB w p ao B) :
  Calls Tryz.prog 59 #[.pointer (some ⟨p, 0, none⟩), .int .i64 (n : Int)] w fun en w' => en = .returned (.tuple #[]) /\ ∃ ao', WrB w' p ao' (B ++ sbits (codeL n (clen n))) /\ Stays (foot p ao) w w' /\ Moved w.heap.size ao ao' := by
 have kc := S2.coded_ok n hn w
 rw [S2.codT_nat n hn, S2.codE_nat n hn] at kc
 have hbt : bytesOf (textOf (codeL n (clen n))) = codeL n (clen n) := bytesOf_textOf _ (codeN_lt n hn)
 have hsz : (textOf (codeL n (clen n))).size <= 7 := by rw [textOf_size, codeL_length]; exact (clen_range n).2
 generalize codeL n (clen n) = L at *
 generalize textOf L = s at *
 have HB := kQ hbt
 have HW := kQ hw
 clear hbt hw
 go_enter Tryz.func59, Tryz.ntmps59
 go_wp2_with fail
 refine kc.mono ?_
 rintro en w1 ⟨rfl, hb1⟩
 have H0 : Hid (WB w p ao ao B w.heap.size w1) := WB.start HW.out hb1 _ hb1.size
 clear kc hb1 HW
 go_wp2_with fail
 go_loopw [6, 14] (fun s6 s14 wr => ∃ (j : Nat) (aj : OA), j <= s.size /\ s14 = .int .i64 (j : Int) /\ WB w p ao aj (B ++ sbits ((bytesOf s).take j)) w.heap.size wr) (fun _ s14 _ => s.size - (intOf s14).toNat)
 case atStart => exact ⟨0, ao, Nat.zero_le _, rfl, by rw [List.take_zero, show sbits [] = [] from rfl, List.append_nil]; exact H0.out⟩
 case round =>
  clear H0;obtain ⟨j, aj, hj, rfl, hwb⟩ := hrel;by_cases hlt : j < s.size
  ·have hx : (s[j]'hlt).toNat < 256 := UInt8.toNat_lt _
   have HN : Hid (B ++ sbits ((bytesOf s).take (j + 1)) = B ++ sbits ((bytesOf s).take j) ++ putB (((s[j]'hlt).toNat : Nat) : Int) 8) := by
    show _ = _;rw [S3.take_snoc s j hlt, sbits_append, put_8 _ hx, List.append_assoc]
   have o1 : Bits01 (B ++ sbits ((bytesOf s).take j)) := h01.append (sbits_01 _);have l1 : (B ++ sbits ((bytesOf s).take j)).length <= 2000000000 := by rw [List.length_append, sbits_length, List.length_take]; omega
   generalize B ++ sbits ((bytesOf s).take j) = BJ at *;have kp := wput_all (B := BJ) (w := wr) (ao := aj) p (((s[j]'hlt).toNat : Nat) : Int) 8 (by omega) (by omega) o1 (by omega) hwb.wr
   have HWB := kQ hwb;clear hwb
   go_wp2_with fail
   refine kp.mono ?_;rintro en w3 ⟨rfl, ao3, hw3, hs3, hm3⟩;have HE := kQ (HWB.out.put hw3 hs3 hm3);clear hw3 hs3 hm3 kp HWB
   go_wp2_with fail
   go_roundw
   case rel => exact ⟨j + 1, ao3, by omega, by go_num, by rw [HN.out]; exact HE.out⟩
   case measure => simp [intOf]; omega
  ·have HE : Hid (WB w p ao aj (B ++ sbits L) w.heap.size wr) := by
    have e : (bytesOf s).take j = L := by rw [HB.out, List.take_of_length_le]; rw [<- HB.out, bytesOf_length]; omega
    rw [<- e]; exact hwb
   clear hwb
   go_wp2_with fail
   go_end0
   exact ⟨rfl, aj, HE.out.wr, HE.out.st, HE.out.mv⟩
structure WH (w : World) (f : Fm) (so : OA) (sk : Nat) (a b c d : Int) (i : Inf) (e : Int) (s : ByteArray) (p : Nat) (aj : OA) (B : List Nat) (wx : World) : Prop where
 wb : WB w p none aj B (w.heap.size + 2) wx
 fb : wx.heap[w.heap.size]? = some (.cells (fmC f so sk) 24 (0, 0))
 ib : wx.heap[w.heap.size + 1]? = some (.cells (infC a b c d i e s) 26 (0, 0))
section
variable {w wx w' : World} {f : Fm} {so : OA} {sk : Nat} {a b c d : Int} {i : Inf} {e : Int} {s : ByteArray} {p : Nat} {aj ao' : OA} {B B' : List Nat}
theorem WH.put (h : WH w f so sk a b c d i e s p aj B wx) (hw : WrB w' p ao' B') (hS : Stays (foot p aj) wx w') (hM : Moved wx.heap.size aj ao') : WH w f so sk a b c d i e s p ao' B' w' :=
 ⟨h.wb.put hw hS hM, by rw [h.wb.box hS _ (Nat.le_refl _) (by omega)]; exact h.fb, by rw [h.wb.box hS _ (by omega) (by omega)]; exact h.ib⟩
theorem WH.low (h : WH w f so sk a b c d i e s p aj B wx) (hb : Lo wx w') : WH w f so sk a b c d i e s p aj B w' :=
 ⟨h.wb.low hb, by rw [hb.block _ (lt_of_block h.fb)]; exact h.fb, by rw [hb.block _ (lt_of_block h.ib)]; exact h.ib⟩
theorem WH.cells (h : WH w f so sk a b c d i e s p aj B wx) : wx.cell? ⟨w.heap.size, 0, none⟩ = some (.bool f.v) /\ wx.cell? ⟨w.heap.size, 1, none⟩ = some (.int .i64 f.num) /\ wx.cell? ⟨w.heap.size, 2, none⟩ = some (.int .i64 f.size) /\ wx.cell? ⟨w.heap.size, 3, none⟩ = some (.int .i64 f.sc) /\ wx.cell? ⟨w.heap.size, 4, none⟩ = some (.int .i64 f.rc) /\ wx.cell? ⟨w.heap.size, 5, none⟩ = some (.int .i64 f.wc) /\ wx.cell? ⟨w.heap.size, 6, none⟩ = some (.int .i64 f.mo) /\ wx.cell? ⟨w.heap.size, 7, none⟩ = some (.slice so f.S.length sk) /\ wx.cell? ⟨w.heap.size + 1, 0, none⟩ = some (.int .i64 a) /\ wx.cell? ⟨w.heap.size + 1, 1, none⟩ = some (.int .i64 b) /\ wx.cell? ⟨w.heap.size + 1, 2, none⟩ = some (.int .i64 c) /\ wx.cell? ⟨w.heap.size + 1, 3, none⟩ = some (.int .i64 d) /\ wx.cell? ⟨w.heap.size + 1, 4, none⟩ = some (.int .i64 i.rate) /\ wx.cell? ⟨w.heap.size + 1, 5, none⟩ = some (.int .i64 i.ch) /\ wx.cell? ⟨w.heap.size + 1, 6, none⟩ = some (.int .i64 i.wd) /\ wx.cell? ⟨w.heap.size + 1, 7, none⟩ = some (.int .i64 e) /\ wx.cell? ⟨w.heap.size + 1, 8, none⟩ = some (.string s) := by
 obtain ⟨z0, z1, z2, z3, z4, z5, z6, z7⟩ := fm_cells h.fb
 obtain ⟨y0, y1, y2, y3, y4, y5, y6, y7, y8⟩ := inf_cells h.ib
 exact ⟨z0, z1, z2, z3, z4, z5, z6, z7, y0, y1, y2, y3, y4, y5, y6, y7, y8⟩
end
theorem sizL_lt (f : Fm) (h : 1 <= f.size /\ f.size <= 4608) (hz : f.sc = 6 -> f.size <= 256) : ∀ b ∈ sizL f, b < 256 := fun b hb => by
 unfold sizL at hb
 split at hb
 ·rename_i h6
  have := hz h6;rw [List.mem_singleton] at hb; omega
 ·split at hb
  ·rcases List.mem_cons.1 hb with e | hb
   ·omega
   ·rw [List.mem_singleton] at hb; omega
  ·cases hb
theorem ratL_lt (f : Fm) (i : Inf) (hr : 1 <= i.rate) (h : saysR f i) : ∀ b ∈ ratL f i, b < 256 := fun b hb => by
 unfold ratL at hb
 split at hb
 ·rename_i h12
  rw [List.mem_singleton] at hb
  rcases h with h | h | h | h | h <;> omega
 ·split at hb
  ·rename_i h12 h13
   rcases List.mem_cons.1 hb with e | hb
   ·rcases h with h | h | h | h | h <;> omega
   ·rw [List.mem_singleton] at hb; omega
  ·split at hb
   ·rename_i h12 h13 h14
    rcases List.mem_cons.1 hb with e | hb
    ·rcases h with h | h | h | h | h <;> omega
    ·rw [List.mem_singleton] at hb; omega
   ·cases hb
theorem size6 {f : Fm} {i : Inf} (h : okH f i) (h6 : f.sc = 6) : f.size <= 256 := by
 have hz := h.2.2.2.2.1
 have h1 := h.2.1
 rcases hz.2 with g | g | g
 ·rw [h6, wid_37.2.2.2.1] at g; omega
 ·exact g.2
 ·omega
theorem num36 {f : Fm} {i : Inf} (h : okH f i) : 0 <= f.num /\ f.num < 68719476736 := by
 have h1 := h.2.2.1
 refine ⟨h1.1, ?_⟩
 have h2 := h1.2
 cases hv : f.v with
 | true => rw [hv] at h2; simp at h2; omega
 | false => rw [hv] at h2; simp at h2; omega
theorem hedL_lt (f : Fm) (i : Inf) (h : okH f i) : ∀ b ∈ hedL f i, b < 256 := fun b hb => by
 have hn := num36 h
 obtain ⟨hi, hsz, hnum, hmo, hz, hr, hw⟩ := h
 have hrr := rc_rng hr
 have hwr := wc_rng hw
 have hzz := hz.1
 unfold hedL at hb
 rcases List.mem_append.1 hb with hb | hb
 ·rcases List.mem_append.1 hb with hb | hb
  ·rcases List.mem_append.1 hb with hb | hb
   ·unfold fourL at hb
    have hcc : 0 <= (if f.mo = 0 then i.ch - 1 else 7 + f.mo) /\ (if f.mo = 0 then i.ch - 1 else 7 + f.mo) < 16 := by
     have := hi.1
     split <;> omega
    have hv : (if f.v then 1 else 0 : Nat) < 2 := by split <;> omega
    generalize (if f.mo = 0 then i.ch - 1 else 7 + f.mo) = cc at *
    generalize (if f.v then 1 else 0 : Nat) = v at *
    simp only [List.mem_cons, List.not_mem_nil, or_false] at hb;omega
   ·exact codeN_lt _ (by omega) b hb
  ·exact sizL_lt f hsz (fun h6 => size6 ⟨hi, hsz, hnum, hmo, hz, hr, hw⟩ h6) b hb
 ·exact ratL_lt f i hi.2.2 hr b hb
structure Hd where
 v : Bool
 sc : Int
 rc : Int
 cc : Int
 wc : Int
 num : Int
 sz : Int
 rt : Int
abbrev hdC (h : Hd) : Array Value := #[.bool h.v, .int .i64 h.sc, .int .i64 h.rc, .int .i64 h.cc, .int .i64 h.wc, .int .i64 h.num, .int .i64 h.sz, .int .i64 h.rt]
abbrev H0 : Hd := ⟨false, 0, 0, 0, 0, 0, 0, 0⟩
def two (x g : Nat) : Nat -> Prop := fun k => k = x ∨ k = g
structure HX (x g : Nat) (s : ByteArray) (h : Hd) (a : Nat) (w0 wx : World) : Prop where
 rd : Rd wx x s a
 hb : wx.heap[g]? = some (.cells (hdC h) 78 (0, 0))
 ne : x ≠ g
 st : Stays (two x g) w0 wx
section
variable {x g : Nat} {s : ByteArray} {h : Hd} {a a' : Nat} {w0 wx w' : World}
theorem HX.cells (k : HX x g s h a w0 wx) : wx.cell? ⟨g, 0, none⟩ = some (.bool h.v) /\ wx.cell? ⟨g, 1, none⟩ = some (.int .i64 h.sc) /\ wx.cell? ⟨g, 2, none⟩ = some (.int .i64 h.rc) /\ wx.cell? ⟨g, 3, none⟩ = some (.int .i64 h.cc) /\ wx.cell? ⟨g, 4, none⟩ = some (.int .i64 h.wc) /\ wx.cell? ⟨g, 5, none⟩ = some (.int .i64 h.num) /\ wx.cell? ⟨g, 6, none⟩ = some (.int .i64 h.sz) /\ wx.cell? ⟨g, 7, none⟩ = some (.int .i64 h.rt) := by
 refine ⟨?_, ?_, ?_, ?_, ?_, ?_, ?_, ?_⟩ <;> (rw [cell_of_row _ _ _ _ _ _ k.hb]; rfl)
theorem HX.f (k : HX x g s h a w0 wx) (o : Nat) : wx.frozen? ⟨g, o, none⟩ = false := by have := k.hb; simp [World.frozen?, this]
theorem HX.low (k : HX x g s h a w0 wx) (hb : Lo wx w') : HX x g s h a w0 w' :=
 ⟨by unfold Rd; rw [hb.block _ k.rd.lt]; exact k.rd, by rw [hb.block _ (lt_of_block k.hb)]; exact k.hb, k.ne, k.st.trans (Stays.of_below hb (two x g)) (fun _ _ h => h)⟩
theorem HX.next (k : HX x g s h a w0 wx) (hr : Rd w' x s a') (hs : Stays (only x) wx w') : HX x g s h a' w0 w' :=
 ⟨hr, by rw [hs.block _ (lt_of_block k.hb) (fun e => k.ne e.symm)]; exact k.hb, k.ne, k.st.trans hs (fun _ _ h => Or.inl h)⟩
theorem HX.put (k : HX x g s h a w0 wx) (j : Nat) (u : Value) (h' : Hd) (e : (hdC h).setIfInBounds j u = hdC h') : HX x g s h' a w0 (wx.setCell ⟨g, j, none⟩ u) :=
 ⟨k.rd.other _ _ (fun e => k.ne e.symm), by rw [block_setCell _ _ _ _ _ _ k.hb, e], k.ne, k.st.setCell _ _ (.inl (.inr rfl))⟩
end
theorem bytesOf_extract (s : ByteArray) (a b : Nat) : bytesOf (s.extract a b) = ((bytesOf s).take b).drop a := by
 unfold bytesOf
 rw [ByteArray.data_extract, Array.toList_extract, List.extract_eq_drop_take', List.map_drop, List.map_take]
theorem f_next (x : Nat) (s : ByteArray) (hs : s.size <= 140737488351232) (a k : Nat) (hk : k <= 56) (hl : a + k <= 8 * s.size) (w : World) (h : Rd w x s a) : Calls Tryz.prog 137 #[.pointer (some ⟨x, 0, none⟩), .int .i64 (k : Int)] w fun e w' => e = .returned (.int .i64 (bitsAt s a k : Int)) /\ Rd w' x s (a + k) /\ Stays (only x) w w' := by
 have kg := get_ok x s (by omega) a k (by omega) hl w h
 have hb := bitsAt_lt s a k
 have hp : 2 ^ k <= 2 ^ 56 := Nat.pow_le_pow_right (by decide) hk
 have hb2 : bitsAt s a k < 72057594037927936 := Nat.lt_of_lt_of_le hb hp
 clear hb hp
 generalize bitsAt s a k = v at *
 go_enter Tryz.func137, Tryz.ntmps137
 go_wp2_with fail
 refine kg.mono ?_
 rintro e w1 ⟨rfl, h1, h2⟩
 have H1 := kQ h1
 have H2 := kQ h2
 clear h1 h2 kg
 go_wp2_with fail
 go_ret
 exact ⟨by first | rfl | go_num, H1.out, H2.out⟩
theorem f_codes (x g : Nat) (s : ByteArray) (hs : s.size <= 140737488351232) (h4 : 4 <= s.size) (n15 n1 nsc nrc ncc nwc n31 : Nat) (e15 : bitsAt s 0 15 = n15) (e1 : bitsAt s 15 1 = n1) (esc : bitsAt s 16 4 = nsc) (erc : bitsAt s 20 4 = nrc) (ecc : bitsAt s 24 4 = ncc) (ewc : bitsAt s 28 3 = nwc) (e31 : bitsAt s 31 1 = n31) (v : Bool) (hv : ((n1 : Int) == 1) = v) (bb : Bool) (hbb : bb = true ↔ (n15 = 32764 /\ n31 = 0)) (w : World) (ha : HX x g s H0 0 w w) :
  Calls Tryz.prog 94 #[.pointer (some ⟨x, 0, none⟩), .pointer (some ⟨g, 0, none⟩)] w fun en w' => en = .returned (.bool bb) /\ HX x g s ⟨v, (nsc : Int), (nrc : Int), (ncc : Int), (nwc : Int), 0, 0, 0⟩ 32 w w' := by
 have HA := kQ ha
 have kl := left_spec x s (by omega) 0 (by omega) w ha.rd
 have K0 : Hid (∀ wx, Rd wx x s 0 -> Calls Tryz.prog 137 #[.pointer (some ⟨x, 0, none⟩), .int .i64 15] wx fun e w' => e = .returned (.int .i64 (n15 : Int)) /\ Rd w' x s 15 /\ Stays (only x) wx w') := fun wx h => by have hh := f_next x s hs 0 15 (by decide) (by omega) wx h; rw [e15] at hh; exact hh
 have K1 : Hid (∀ wx, Rd wx x s 15 -> Calls Tryz.prog 137 #[.pointer (some ⟨x, 0, none⟩), .int .i64 1] wx fun e w' => e = .returned (.int .i64 (n1 : Int)) /\ Rd w' x s 16 /\ Stays (only x) wx w') := fun wx h => by have hh := f_next x s hs 15 1 (by decide) (by omega) wx h; rw [e1] at hh; exact hh
 have K2 : Hid (∀ wx, Rd wx x s 16 -> Calls Tryz.prog 137 #[.pointer (some ⟨x, 0, none⟩), .int .i64 4] wx fun e w' => e = .returned (.int .i64 (nsc : Int)) /\ Rd w' x s 20 /\ Stays (only x) wx w') := fun wx h => by have hh := f_next x s hs 16 4 (by decide) (by omega) wx h; rw [esc] at hh; exact hh
 have K3 : Hid (∀ wx, Rd wx x s 20 -> Calls Tryz.prog 137 #[.pointer (some ⟨x, 0, none⟩), .int .i64 4] wx fun e w' => e = .returned (.int .i64 (nrc : Int)) /\ Rd w' x s 24 /\ Stays (only x) wx w') := fun wx h => by have hh := f_next x s hs 20 4 (by decide) (by omega) wx h; rw [erc] at hh; exact hh
 have K4 : Hid (∀ wx, Rd wx x s 24 -> Calls Tryz.prog 137 #[.pointer (some ⟨x, 0, none⟩), .int .i64 4] wx fun e w' => e = .returned (.int .i64 (ncc : Int)) /\ Rd w' x s 28 /\ Stays (only x) wx w') := fun wx h => by have hh := f_next x s hs 24 4 (by decide) (by omega) wx h; rw [ecc] at hh; exact hh
 have K5 : Hid (∀ wx, Rd wx x s 28 -> Calls Tryz.prog 137 #[.pointer (some ⟨x, 0, none⟩), .int .i64 3] wx fun e w' => e = .returned (.int .i64 (nwc : Int)) /\ Rd w' x s 31 /\ Stays (only x) wx w') := fun wx h => by have hh := f_next x s hs 28 3 (by decide) (by omega) wx h; rw [ewc] at hh; exact hh
 have K6 : Hid (∀ wx, Rd wx x s 31 -> Calls Tryz.prog 137 #[.pointer (some ⟨x, 0, none⟩), .int .i64 1] wx fun e w' => e = .returned (.int .i64 (n31 : Int)) /\ Rd w' x s 32 /\ Stays (only x) wx w') := fun wx h => by have hh := f_next x s hs 31 1 (by decide) (by omega) wx h; rw [e31] at hh; exact hh
 clear ha e15 e1 esc erc ecc ewc e31
 by_cases g31 : n31 = 0
 focus
  have hb31 : ((n31 : Int) == 0) = true := eQt (by omega)
  by_cases g15 : n15 = 32764
  focus
   have hb15 : ((n15 : Int) == 32764) = true := eQt (by omega)
   rw [bb_yes hbb ⟨g15, g31⟩];clear hbb g31 g15;go_enter Tryz.func94, Tryz.ntmps94
   go_wp2_with fail
   refine kl.mono ?_;rintro en w1 ⟨rfl, nn, hw1⟩
  rotate_left
  focus
   have hb15 : ((n15 : Int) == 32764) = false := eQf (by omega)
   rw [bb_no hbb (fun h => g15 h.1)];clear hbb g31 g15;go_enter Tryz.func94, Tryz.ntmps94
   go_wp2_with fail
   refine kl.mono ?_;rintro en w1 ⟨rfl, nn, hw1⟩
  rotate_left
 rotate_left 2
 focus
  have hb31 : ((n31 : Int) == 0) = false := eQf (by omega)
  rw [bb_no hbb (fun h => g31 h.2)];clear hbb g31;go_enter Tryz.func94, Tryz.ntmps94
  go_wp2_with fail
  refine kl.mono ?_;rintro en w1 ⟨rfl, nn, hw1⟩
 rotate_left
 all_goals
  have HB0 : Hid (HX x g s H0 0 w w1) := by rw [hw1]; exact HA.out.low (below_drewN _ _)
  clear kl hw1 HA
  go_wp2_with fail
  refine (K0.out _ HB0.out.rd).mono ?_;rintro en wa0 ⟨rfl, hr, hs⟩;have HC0 := kQ (HB0.out.next hr hs);clear hr hs HB0 K0;have HB1 := kQ HC0.out;clear HC0
  go_wp2_with fail
  refine (K1.out _ HB1.out.rd).mono ?_;rintro en wa1 ⟨rfl, hr, hs⟩;have HC1 := kQ (HB1.out.next hr hs);clear hr hs HB1 K1;obtain ⟨z0, z1, z2, z3, z4, z5, z6, z7⟩ := HC1.out.cells;have fz := HC1.out.f 0;have HB2 : Hid (HX x g s ⟨v, 0, 0, 0, 0, 0, 0, 0⟩ 16 w (wa1.setCell ⟨g, 0, none⟩ (.bool v))) := HC1.out.put 0 _ _ rfl
  go_wp2_with fail
  clear z0 z1 z2 z3 z4 z5 z6 z7 fz HC1;generalize wa1.setCell ⟨g, 0, none⟩ (.bool v) = wb2 at *;refine (K2.out _ HB2.out.rd).mono ?_;rintro en wa2 ⟨rfl, hr, hs⟩;have HC2 := kQ (HB2.out.next hr hs);clear hr hs HB2 K2;obtain ⟨z0, z1, z2, z3, z4, z5, z6, z7⟩ := HC2.out.cells;have fz := HC2.out.f 1;have HB3 : Hid (HX x g s ⟨v, (nsc : Int), 0, 0, 0, 0, 0, 0⟩ 20 w (wa2.setCell ⟨g, 1, none⟩ (.int .i64 (nsc : Int)))) := HC2.out.put 1 _ _ rfl
  go_wp2_with fail
  clear z0 z1 z2 z3 z4 z5 z6 z7 fz HC2;generalize wa2.setCell ⟨g, 1, none⟩ (.int .i64 (nsc : Int)) = wb3 at *;refine (K3.out _ HB3.out.rd).mono ?_;rintro en wa3 ⟨rfl, hr, hs⟩;have HC3 := kQ (HB3.out.next hr hs);clear hr hs HB3 K3;obtain ⟨z0, z1, z2, z3, z4, z5, z6, z7⟩ := HC3.out.cells;have fz := HC3.out.f 2;have HB4 : Hid (HX x g s ⟨v, (nsc : Int), (nrc : Int), 0, 0, 0, 0, 0⟩ 24 w (wa3.setCell ⟨g, 2, none⟩ (.int .i64 (nrc : Int)))) := HC3.out.put 2 _ _ rfl
  go_wp2_with fail
  clear z0 z1 z2 z3 z4 z5 z6 z7 fz HC3;generalize wa3.setCell ⟨g, 2, none⟩ (.int .i64 (nrc : Int)) = wb4 at *;refine (K4.out _ HB4.out.rd).mono ?_;rintro en wa4 ⟨rfl, hr, hs⟩;have HC4 := kQ (HB4.out.next hr hs);clear hr hs HB4 K4;obtain ⟨z0, z1, z2, z3, z4, z5, z6, z7⟩ := HC4.out.cells;have fz := HC4.out.f 3;have HB5 : Hid (HX x g s ⟨v, (nsc : Int), (nrc : Int), (ncc : Int), 0, 0, 0, 0⟩ 28 w (wa4.setCell ⟨g, 3, none⟩ (.int .i64 (ncc : Int)))) := HC4.out.put 3 _ _ rfl
  go_wp2_with fail
  clear z0 z1 z2 z3 z4 z5 z6 z7 fz HC4;generalize wa4.setCell ⟨g, 3, none⟩ (.int .i64 (ncc : Int)) = wb5 at *;refine (K5.out _ HB5.out.rd).mono ?_;rintro en wa5 ⟨rfl, hr, hs⟩;have HC5 := kQ (HB5.out.next hr hs);clear hr hs HB5 K5;obtain ⟨z0, z1, z2, z3, z4, z5, z6, z7⟩ := HC5.out.cells;have fz := HC5.out.f 4;have HB6 : Hid (HX x g s ⟨v, (nsc : Int), (nrc : Int), (ncc : Int), (nwc : Int), 0, 0, 0⟩ 31 w (wa5.setCell ⟨g, 4, none⟩ (.int .i64 (nwc : Int)))) := HC5.out.put 4 _ _ rfl
  go_wp2_with fail
  clear z0 z1 z2 z3 z4 z5 z6 z7 fz HC5;generalize wa5.setCell ⟨g, 4, none⟩ (.int .i64 (nwc : Int)) = wb6 at *
 rotate_left 3
 all_goals
  refine (K6.out _ HB6.out.rd).mono ?_;rintro en wa6 ⟨rfl, hr, hs⟩;have HC6 := kQ (HB6.out.next hr hs);clear hr hs HB6 K6
  go_wp2_with fail
  go_ret;exact ⟨rfl, HC6.out⟩
theorem f_codes_no (x : Nat) (g : Addr) (s : ByteArray) (h4 : s.size < 4) (w : World) (ha : Rd w x s 0) :
  Calls Tryz.prog 94 #[.pointer (some ⟨x, 0, none⟩), .pointer (some g)] w fun en w' => en = .returned (.bool false) /\ ∃ n, w' = w.drewN n := by
 have kl := left_spec x s (by omega) 0 (by omega) w ha
 clear ha
 go_enter Tryz.func94, Tryz.ntmps94
 go_wp2_with fail
 refine kl.mono ?_
 rintro en w1 ⟨rfl, nn, hw1⟩
 subst hw1
 go_wp2_with fail
 go_ret
 exact ⟨rfl, _, rfl⟩
end Go.Proofs.YtfpfabmbipmipaaGreatDoor
namespace Go.Proofs.YtfpfabmbipmipaaGreatDoor
open Go.RowKit
namespace S2
theorem i64_or_nat (a b : Nat) (ha : a < 9223372036854775808) (hb : b < 9223372036854775808) : bits .or .i64 (a : Int) (b : Int) = ((a ||| b : Nat) : Int) := by
 show IntKind.i64.wrap ((BitVec.ofInt 64 (a : Int) ||| BitVec.ofInt 64 (b : Int)).toNat : Int) = _
 rw [BitVec.toNat_or, BitVec.toNat_ofInt, BitVec.toNat_ofInt]
 have ea : ((a : Int) % ((2 ^ 64 : Nat) : Int)).toNat = a := by omega
 have eb : ((b : Int) % ((2 ^ 64 : Nat) : Int)).toNat = b := by omega
 rw [ea, eb]
 have hl : a ||| b < 2 ^ 63 := Nat.or_lt_two_pow ha hb
 rw [IntKind.wrap_i64]
 omega
theorem xor_head : ∀ b : Fin 256, hc b.val ≠ 0 -> bits BinOp.xor IntKind.i64 (b.val : Int) (hm (hc b.val) : Int) = ((b.val - hm (hc b.val) : Nat) : Int) := by decide +kernel
theorem not63 : ∀ b : Fin 256, (bits BinOp.andNot IntKind.u8 (b.val : Int) 63 != 128) = decide (b.val < 128 ∨ 192 <= b.val) := by decide +kernel
theorem or_tail (n b : Nat) (hn : n < 68719476736) (hb : b < 256) (h : ¬ (b < 128 ∨ 192 <= b)) : bits BinOp.or IntKind.i64 ((n : Int) * 64) ((b : Int) % 64) = ((n * 64 + (b - 128) : Nat) : Int) := by
 have e : (b : Int) % 64 = ((b - 128 : Nat) : Int) := by omega
 have e2 : (n : Int) * 64 = ((n * 64 : Nat) : Int) := by simp
 rw [e, e2, i64_or_nat _ _ (by omega) (by omega), nat_join 6 _ _ (by omega) (by omega)]
theorem getD_byte (s : ByteArray) (i : Nat) (h : i < s.size) : (bytesOf s).getD i 0 = (s[i]'h).toNat := by
 rw [List.getD_eq_getElem?_getD, List.getElem?_eq_getElem (by rw [bytesOf_length]; exact h), bytesOf_get s i h]
 rfl
def triple (u : Nat × Nat × Nat) : Value := .tuple #[.int .i64 (u.1 : Int), .int .i64 (u.2.1 : Int), .int .i64 (u.2.2 : Int)]
theorem uncode_none (l : List Nat) (h : l.length = 0) : uncode l = (0, 0, 10) := by unfold uncode; rw [if_pos h]
theorem uncode_bad (l : List Nat) (h : ¬ l.length = 0) (b : Nat) (hb : l.getD 0 0 = b) (hc0 : hc b = 0) : uncode l = (0, 0, 2) := by unfold uncode; rw [if_neg h, hb, if_pos hc0]
theorem uncode_of (l : List Nat) (h : ¬ l.length = 0) (b k : Nat) (hb : l.getD 0 0 = b) (hk : hc b = k) (hk0 : k ≠ 0) : uncode l = uncEnd k (unc l (k - 1) 1 (b - hm k)) := by
 unfold uncode
 rw [if_neg h, hb, hk, if_neg hk0]
theorem empty_of_size (s : ByteArray) (h : s.size = 0) : s = ⟨#[]⟩ := by
 apply ByteArray.ext
 exact Array.eq_empty_of_size_eq_zero h
theorem not_empty (s : ByteArray) (h : ¬ s.size = 0) : s.toList.isEmpty = false := by
 rw [ByteArray.toList_eq, List.isEmpty_eq_false_iff]
 intro e
 apply h
 have : s.data.toList.length = 0 := by rw [e]; rfl
 rw [Array.length_toList] at this
 exact this
theorem uncEnd_err (k e : Nat) (h : e ≠ 0) : uncEnd k (0, e) = (0, 0, e) := by unfold uncEnd; rw [if_pos h]
theorem uncEnd_long (k n : Nat) (h : clen n < k) : uncEnd k (n, 0) = (0, 0, 2) := by unfold uncEnd; rw [if_neg (by simp), if_pos h]
theorem uncEnd_ok (k n : Nat) (h : ¬ clen n < k) : uncEnd k (n, 0) = (n, k, 0) := by unfold uncEnd; rw [if_neg (by simp), if_neg h]
theorem bound_step (n c m B : Nat) (hc : c < 64) (h : (n + 1) * 64 ^ (m + 1) <= B) : (n * 64 + c + 1) * 64 ^ m <= B := by
 have h1 : n * 64 + c + 1 <= (n + 1) * 64 := by omega
 have h2 : (n * 64 + c + 1) * 64 ^ m <= (n + 1) * 64 * 64 ^ m := Nat.mul_le_mul_right _ h1
 have e : (n + 1) * 64 ^ (m + 1) = (n + 1) * 64 * 64 ^ m := by rw [Nat.pow_succ, Nat.mul_comm (64 ^ m), Nat.mul_assoc]
 omega
theorem bound_small (n m k : Nat) (h1 : 1 <= k) (h7 : k <= 7) (h : (n + 1) * 64 ^ m <= cbound k) : n < 68719476736 /\ n < cbound k := by
 have := cbound_le k h1 h7
 have h2 : n + 1 <= (n + 1) * 64 ^ m := Nat.le_mul_of_pos_right _ (Nat.pow_pos (by decide))
 omega
theorem wrap_byte (b : UInt8) : wrap64 (b.toNat : Int) = (b.toNat : Int) := by
 have := UInt8.toNat_lt b
 unfold wrap64
 omega
theorem uncoded_spec (s : ByteArray) (hs : s.size <= 200000000000000) (w : World) :
  Calls Tryz.prog 138 #[.string s] w fun e w' => e = .returned (triple (uncode (bytesOf s))) /\ ∃ n, w' = w.drewN n := by
 by_cases h0 : s.size = 0
 ·have e := empty_of_size s h0
  subst e;rw [uncode_none _ rfl];go_enter Tryz.func138, Tryz.ntmps138
  go_wp2
  go_ret3
  exact ⟨rfl, 0, rfl⟩
 ·have hl : ¬ (bytesOf s).length = 0 := by rw [bytesOf_length]; exact h0
  have hp : 0 < s.size := by omega
  have hg := getD_byte s 0 hp;have hx : (s[0]'hp).toNat < 256 := UInt8.toNat_lt _;have hem := not_empty s h0;obtain ⟨b, hb⟩ : ∃ b, b = (s[0]'hp).toNat := ⟨_, rfl⟩;rw [<- hb] at hg hx;have hcs := headCount_spec b hx w;have hr7 := hc_range b;by_cases hk0 : hc b = 0
  ·rw [uncode_bad _ hl b hg hk0]
   rw [hk0] at hcs;rw [hb] at hcs;clear hg hr7 hk0 hx hb;go_enter Tryz.func138, Tryz.ntmps138
   go_wp2_with fail
   refine hcs.mono ?_;rintro e w1 ⟨rfl, rfl⟩
   go_wp2
   go_ret3
   exact ⟨rfl, 0, rfl⟩
  ·have hf := hc_first b hx hk0
   have hxo := xor_head ⟨b, hx⟩ hk0;simp only at hxo;obtain ⟨k, hk⟩ : ∃ k, k = hc b := ⟨_, rfl⟩;rw [<- hk] at hcs hr7 hk0 hf hxo;rw [uncode_of _ hl b k hg hk.symm hk0];have HF := kQ hf.2;have hne : ((k : Int) == 0) = false := by simp; omega
   have hmw : ∀ w, Calls Tryz.prog 154 #[.int .i64 (k : Int)] w fun e w' => e = .returned (.int .i64 (hm k : Int)) /\ w' = w := fun w => headMark_spec k (by omega) (by omega) w
   generalize b - hm k = n0 at *;generalize hm k = m0 at *;rw [hb] at hcs hxo;clear hg hk hb hf;go_enter Tryz.func138, Tryz.ntmps138
   go_wp2_with fail
   refine hcs.mono ?_;rintro e w1 ⟨rfl, rfl⟩
   go_wp2
   go_quiet ((go_at_call 154; exact Calls.quiet_of_same (hmw _)))
   go_wp2
   go_loopw [6, 7] (fun x y wr => ∃ (i n : Nat), 1 <= i /\ i <= k /\ i <= s.size /\ (n + 1) * 64 ^ (k - i) <= cbound k /\ unc (bytesOf s) (k - i) i n = unc (bytesOf s) (k - 1) 1 n0 /\ x = .int .i64 (n : Int) /\ y = .int .i64 (i : Int) /\ ∃ nd, wr = w1.drewN nd) (fun _ y _ => k - (intOf y).toNat)
   case atStart => exact ⟨1, n0, by omega, by omega, by omega, HF.out, rfl, by rw [wrap_byte, hxo], rfl, _, rfl⟩
   case round =>
    obtain ⟨i, n, hi1, hik, his, hbn, hun, rfl, rfl, nd, rfl⟩ := hrel;have hbs := bound_small n (k - i) k (by omega) hr7 hbn
    by_cases hlt : i < k
    ·obtain ⟨m, hm⟩ : ∃ m, k - i = m + 1 := ⟨k - i - 1, by omega⟩
     rw [hm] at hun hbn;by_cases he : i = s.size
     ·have hR : uncEnd k (unc (bytesOf s) (k - 1) 1 n0) = (0, 0, 10) := by
       rw [<- hun, unc_short _ _ _ _ (by rw [bytesOf_length]; omega), uncEnd_err k 10 (by decide)]
      have HR : Hid _ := hR;subst he;clear hun hbn hR hm
      go_wp2
      go_ret3
      exact ⟨by rw [HR.out]; rfl, nd, rfl⟩
     ·have hsi : i < s.size := by omega
      have hgi := getD_byte s i hsi;have hxi : (s[i]'hsi).toNat < 256 := UInt8.toNat_lt _;have hn63 := not63 ⟨(s[i]'hsi).toNat, hxi⟩;simp only at hn63;have hie : ((i : Int) == (s.size : Int)) = false := by simp; omega
      by_cases hbad : (s[i]'hsi).toNat < 128 ∨ 192 <= (s[i]'hsi).toNat
      ·have hR : uncEnd k (unc (bytesOf s) (k - 1) 1 n0) = (0, 0, 2) := by
        rw [<- hun, unc_bad _ _ _ _ (by rw [bytesOf_length]; omega) (by rw [hgi]; exact hbad), uncEnd_err k 2 (by decide)]
       have HR : Hid _ := hR;rw [decide_eq_true hbad] at hn63;clear hun hbn hR hm hbad hgi
       go_wp2
       go_ret3
       exact ⟨by rw [HR.out]; rfl, nd, rfl⟩
      ·rw [decide_eq_false hbad] at hn63
       have hor := or_tail n _ hbs.1 hxi hbad;have hst := unc_step (bytesOf s) m i n (by rw [bytesOf_length]; omega) (by rw [hgi]; exact hbad)
       rw [hgi, hun] at hst;have hbn2 := bound_step n ((s[i]'hsi).toNat - 128) m _ (by omega) hbn
       have HST : Hid _ := hst;have HBN : Hid _ := hbn2;have hn2 := hbs.1;have hge : 128 <= (s[i]'hsi).toNat := by omega
       clear hun hbn hbad hgi hst hbn2 hbs
       go_wp2
       go_roundw
       case rel => exact ⟨i + 1, _, by omega, by omega, by omega, by rw [show k - (i + 1) = m from by omega]; exact HBN.out, by rw [show k - (i + 1) = m from by omega]; exact HST.out.symm, by go_num, by go_num, nd, rfl⟩
       case measure => simp [intOf]; omega
    focus
     obtain rfl : i = k := by omega
     rw [Nat.sub_self, unc_end] at hun;have hcl := codedLen_spec n hbs.1 (w1.drewN nd);by_cases hlo : clen n < i
     focus
      have HR : Hid (uncEnd i (unc (bytesOf s) (i - 1) 1 n0) = (0, 0, 2)) := by
       show _ = _;rw [<- hun, uncEnd_long i n hlo]
     rotate_left
     focus
      have HR : Hid (uncEnd i (unc (bytesOf s) (i - 1) 1 n0) = (n, i, 0)) := by
       show _ = _;rw [<- hun, uncEnd_ok i n hlo]
     rotate_left
    rotate_left 2
    all_goals
     clear hun hbn
     go_wp2_with fail
     refine hcl.mono ?_;rintro e w2 ⟨rfl, rfl⟩
     go_wp2
     go_ret3
     exact ⟨by rw [HR.out]; rfl, nd, rfl⟩
end S2
end Go.Proofs.YtfpfabmbipmipaaGreatDoor
namespace Go.Proofs.YtfpfabmbipmipaaGreatDoor
open Go.RowKit
theorem Lay.only {w w' : World} {x : Nat} (h : Lay w) (hs : Stays (only x) w w') (hx : 4 <= x) : Lay w' := by
 have tab : ∀ {b : Nat} {T : List Int}, b < 4 -> IntTab b T w -> IntTab b T w' := fun {b T} hb4 ht j hj => by
  have h1 := ht j hj;rw [<- h1]; exact World.cell?_of_block (w := w) (hs.block _ (lt_cell h1) (fun e => by have e2 : b = x := e; omega))
 refine ⟨tab (by decide) h.z, tab (by decide) h.r, tab (by decide) h.d, ?_⟩
 have hlt := S3.RulesAt.size h.u
 obtain ⟨t, fz, hb⟩ := h.u
 exact ⟨t, fz, by rw [hs.block _ (lt_of_block hb) (fun e => by have e2 : 3 = x := e; omega)]; exact hb⟩
theorem tail_bytes (s : ByteArray) (a : Nat) : bytesOf (s.extract a s.size) = (bytesOf s).drop a := by
 rw [bytesOf_extract, List.take_of_length_le (by rw [bytesOf_length]; exact Nat.le_refl _)]
theorem head_bytes (s : ByteArray) (b : Nat) : bytesOf (s.extract 0 b) = (bytesOf s).take b := by
 rw [bytesOf_extract, List.drop_zero]
theorem extract_size (s : ByteArray) (a b : Nat) (h : b <= s.size) : (s.extract a b).size = b - a := by
 rw [<- bytesOf_length, bytesOf_extract, List.length_drop, List.length_take, bytesOf_length]; omega
theorem f_num_ok (x g : Nat) (s : ByteArray) (hs : s.size ≤ 140737488351232) (h : Hd) (num k : Nat) (h4 : 4 ≤ s.size) (hu : uncode ((bytesOf s).drop 4) = (num, k, 0)) (w0 w : World) (ha : HX x g s h 32 w0 w) :
  Calls Tryz.prog 95 #[.pointer (some ⟨x, 0, none⟩), .string s, .pointer (some ⟨g, 0, none⟩)] w fun en w' => en = .returned (.bool true) ∧ HX x g s { h with num := (num : Int) } (32 + 8 * k) w0 w' := by
 obtain ⟨u1, u2, u3, u4⟩ := uncode_again ((bytesOf s).drop 4) (fun b hb => bytesOf_lt s b (List.mem_of_mem_drop hb)) num k hu
 have hk7 : k ≤ 7 := (by rw [u1]; exact (clen_range num).2)
 have hnum : num < 68719476736 := u2
 have hk4 : 4 + k ≤ s.size := by rw [List.length_drop, bytesOf_length] at u3; omega
 have ku := fun wx => S2.uncoded_spec (s.extract 4 s.size) (by rw [extract_size s 4 s.size (Nat.le_refl _)]; omega) wx
 rw [tail_bytes, hu] at ku
 have KU : Hid (∀ wx, Calls Tryz.prog 138 #[.string (s.extract 4 s.size)] wx fun e w' => e = .returned (.tuple #[.int .i64 (num : Int), .int .i64 (k : Int), .int .i64 0]) ∧ ∃ n, w' = wx.drewN n) := ku
 have HA : Hid (HX x g s h 32 w0 w) := ha
 have kat := at_spec x s 32 w ha.rd
 have KN : Hid (∀ wx, Rd wx x s 32 → Calls Tryz.prog 137 #[.pointer (some ⟨x, 0, none⟩), .int .i64 (8 * (k : Int))] wx fun e w' => e = .returned (.int .i64 (bitsAt s 32 (8 * k) : Int)) ∧ Rd w' x s (32 + 8 * k) ∧ Stays (only x) wx w') := fun wx h => f_next x s hs 32 (8 * k) (by omega) (by omega) wx h
 clear ha ku u1 u2 u3 u4 hu
 go_enter Tryz.func95, Tryz.ntmps95
 go_wp2_with fail
 refine kat.mono ?_
 rintro en w1 ⟨rfl, hw1⟩
 subst hw1
 clear kat
 go_wp2_with fail
 refine (KU.out _).mono ?_
 rintro en w2 ⟨rfl, nn, hw2⟩
 have HB : Hid (HX x g s h 32 w0 w2) := by rw [hw2]; exact HA.out.low (below_drewN _ _)
 clear hw2 HA KU
 obtain ⟨z0, z1, z2, z3, z4, z5, z6, z7⟩ := HB.out.cells
 have fz := HB.out.f 5
 have HC : Hid (HX x g s { h with num := (num : Int) } 32 w0 (w2.setCell ⟨g, 5, none⟩ (.int .i64 (num : Int)))) := HB.out.put 5 _ _ rfl
 go_wp2_with fail
 clear z0 z1 z2 z3 z4 z5 z6 z7 fz HB
 generalize w2.setCell ⟨g, 5, none⟩ (.int .i64 (num : Int)) = w3 at *
 refine (KN.out _ HC.out.rd).mono ?_
 rintro en w4 ⟨rfl, hr, hs4⟩
 have HD : Hid (HX x g s { h with num := (num : Int) } (32 + 8 * k) w0 w4) := HC.out.next hr hs4
 clear hr hs4 HC KN
 go_wp2_with fail
 go_ret
 exact ⟨rfl, HD.out⟩
theorem f_beh_no (x g : Nat) (s : ByteArray) (hs : s.size <= 140737488351232) (h : Hd) (a : Nat) (zn rn : Nat) (hz : szb h.sc = zn) (hr : rtb h.rc = rn) (hz2 : zn <= 2) (hr2 : rn <= 2) (ha8 : a <= 8 * s.size) (hl : 8 * s.size < a + (8 * zn + 8 * rn)) (w0 w : World) (ha : HX x g s h a w0 w) :
  Calls Tryz.prog 96 #[.pointer (some ⟨x, 0, none⟩), .pointer (some ⟨g, 0, none⟩)] w fun en w' => en = .returned (.bool false) /\ HX x g s h a w0 w' := by
 have kz := f_szb h.sc
 have kr := f_rtb h.rc
 rw [hz] at kz
 rw [hr] at kr
 have HA := kQ ha
 have KL : Hid (∀ wx, HX x g s h a w0 wx -> Calls Tryz.prog 136 #[.pointer (some ⟨x, 0, none⟩)] wx fun e w' => e = .returned (.int .i64 (8 * (s.size : Int) - (a : Int))) /\ ∃ n, w' = wx.drewN n) := fun wx hh => left_spec x s (by omega) a ha8 wx hh.rd
 obtain ⟨z0, z1, z2, z3, z4, z5, z6, z7⟩ := ha.cells
 clear ha hz hr
 go_enter Tryz.func96, Tryz.ntmps96
 go_wp2_with fail
 go_quiet (first | (go_at_call 60; exact Calls.quiet_of_same (kz _)) | (go_at_call 61; exact Calls.quiet_of_same (kr _)))
 have HB : Hid (HX x g s h a w0 (w.drewN nq)) := HA.out.low (below_drewN _ _)
 clear z0 z1 z2 z3 z4 z5 z6 z7 HA kz kr
 generalize w.drewN nq = w1 at *
 go_wp2_with fail
 refine (KL.out _ HB.out).mono ?_
 rintro en w2 ⟨rfl, nn, hw2⟩
 have HC : Hid (HX x g s h a w0 w2) := by rw [hw2]; exact HB.out.low (below_drewN _ _)
 clear hw2 HB KL
 go_wp2_with fail
 go_ret
 exact ⟨rfl, HC.out⟩
theorem f_beh_ok (x g : Nat) (s : ByteArray) (hs : s.size <= 140737488351232) (h : Hd) (a : Nat) (zn rn : Nat) (hz : szb h.sc = zn) (hr : rtb h.rc = rn) (hz2 : zn <= 2) (hr2 : rn <= 2) (hl : a + 8 * zn + 8 * rn <= 8 * s.size) (w0 w : World) (ha : HX x g s h a w0 w) :
  Calls Tryz.prog 96 #[.pointer (some ⟨x, 0, none⟩), .pointer (some ⟨g, 0, none⟩)] w fun en w' => en = .returned (.bool true) /\ HX x g s { h with sz := (bitsAt s a (8 * zn) : Int), rt := (bitsAt s (a + 8 * zn) (8 * rn) : Int) } (a + 8 * zn + 8 * rn) w0 w' := by
 have kz := f_szb h.sc
 have kr := f_rtb h.rc
 rw [hz] at kz
 rw [hr] at kr
 have HA := kQ ha
 have KL : Hid (∀ wx, HX x g s h a w0 wx -> Calls Tryz.prog 136 #[.pointer (some ⟨x, 0, none⟩)] wx fun e w' => e = .returned (.int .i64 (8 * (s.size : Int) - (a : Int))) /\ ∃ n, w' = wx.drewN n) := fun wx hh => left_spec x s (by omega) a (by omega) wx hh.rd
 have KN : Hid (∀ wx, Rd wx x s a -> Calls Tryz.prog 137 #[.pointer (some ⟨x, 0, none⟩), .int .i64 (8 * (zn : Int))] wx fun e w' => e = .returned (.int .i64 (bitsAt s a (8 * zn) : Int)) /\ Rd w' x s (a + 8 * zn) /\ Stays (only x) wx w') := fun wx h => f_next x s hs a (8 * zn) (by omega) (by omega) wx h
 have KM : Hid (∀ wx, Rd wx x s (a + 8 * zn) -> Calls Tryz.prog 137 #[.pointer (some ⟨x, 0, none⟩), .int .i64 (8 * (rn : Int))] wx fun e w' => e = .returned (.int .i64 (bitsAt s (a + 8 * zn) (8 * rn) : Int)) /\ Rd w' x s (a + 8 * zn + 8 * rn) /\ Stays (only x) wx w') := fun wx h => f_next x s hs (a + 8 * zn) (8 * rn) (by omega) (by omega) wx h
 obtain ⟨z0, z1, z2, z3, z4, z5, z6, z7⟩ := ha.cells
 clear ha hz hr
 generalize bitsAt s a (8 * zn) = u at *
 generalize bitsAt s (a + 8 * zn) (8 * rn) = v at *
 go_enter Tryz.func96, Tryz.ntmps96
 go_wp2_with fail
 go_quiet (first | (go_at_call 60; exact Calls.quiet_of_same (kz _)) | (go_at_call 61; exact Calls.quiet_of_same (kr _)))
 have HB : Hid (HX x g s h a w0 (w.drewN nq)) := HA.out.low (below_drewN _ _)
 clear z0 z1 z2 z3 z4 z5 z6 z7 HA kz kr
 generalize w.drewN nq = w1 at *
 go_wp2_with fail
 refine (KL.out _ HB.out).mono ?_
 rintro en w2 ⟨rfl, nn, hw2⟩
 have HC : Hid (HX x g s h a w0 w2) := by rw [hw2]; exact HB.out.low (below_drewN _ _)
 clear hw2 HB KL
 go_wp2_with fail
 refine (KN.out _ HC.out.rd).mono ?_
 rintro en w3 ⟨rfl, hr3, hs3⟩
 have HD := kQ (HC.out.next hr3 hs3)
 clear hr3 hs3 HC KN
 obtain ⟨z0, z1, z2, z3, z4, z5, z6, z7⟩ := HD.out.cells
 have fz := HD.out.f 6
 have HE : Hid (HX x g s { h with sz := (u : Int) } (a + 8 * zn) w0 (w3.setCell ⟨g, 6, none⟩ (.int .i64 (u : Int)))) := HD.out.put 6 _ _ rfl
 go_wp2_with fail
 clear z0 z1 z2 z3 z4 z5 z6 z7 fz HD
 generalize w3.setCell ⟨g, 6, none⟩ (.int .i64 (u : Int)) = w4 at *
 refine (KM.out _ HE.out.rd).mono ?_
 rintro en w5 ⟨rfl, hr5, hs5⟩
 have HF := kQ (HE.out.next hr5 hs5)
 clear hr5 hs5 HE KM
 obtain ⟨z0, z1, z2, z3, z4, z5, z6, z7⟩ := HF.out.cells
 have fz := HF.out.f 7
 have HG : Hid (HX x g s { h with sz := (u : Int), rt := (v : Int) } (a + 8 * zn + 8 * rn) w0 (w5.setCell ⟨g, 7, none⟩ (.int .i64 (v : Int)))) := HF.out.put 7 _ _ rfl
 go_wp2_with fail
 clear z0 z1 z2 z3 z4 z5 z6 z7 fz HF
 go_ret
 exact ⟨rfl, HG.out⟩
theorem f_sum8_end (x : Nat) (s : ByteArray) (hs : s.size <= 140737488351232) (m : Nat) (hm : m <= s.size) (he : 8 * s.size < 8 * m + 8) (w : World) (hr : Rd w x s (8 * m)) :
  Calls Tryz.prog 97 #[.pointer (some ⟨x, 0, none⟩), .string s, .int .i64 8, .func (.func 63) #[] #[]] w fun en w' => en = .returned (.bool false) /\ Lo w w' := by
 have kat := at_spec x s (8 * m) w hr
 have kg := get_end x s (by omega) (8 * m) (by omega) 8 (by decide) he w hr
 clear hr
 go_enter Tryz.func97, Tryz.ntmps97
 go_wp2_with fail
 refine kat.mono ?_
 rintro en w1 ⟨rfl, hw1⟩
 subst hw1
 clear kat
 go_wp2_with fail
 refine kg.mono ?_
 rintro en w2 ⟨rfl, nn, hw2⟩
 have HB : Hid (Lo w1 w2) := by rw [hw2]; exact below_drewN _ _
 clear hw2 kg
 go_wp2_with fail
 go_ret
 exact ⟨rfl, HB.out⟩
theorem f_sum8_yes (x : Nat) (s : ByteArray) (hs : s.size <= 140737488351232) (m : Nat) (hm : 8 * m + 8 <= 8 * s.size) (hc : bitsAt s (8 * m) 8 = crc8N ((bytesOf s).take m)) (w : World) (hr : Rd w x s (8 * m)) (hL : Lay w) (hx4 : 4 <= x) :
  Calls Tryz.prog 97 #[.pointer (some ⟨x, 0, none⟩), .string s, .int .i64 8, .func (.func 63) #[] #[]] w fun en w' => en = .returned (.bool true) /\ Rd w' x s (8 * m + 8) /\ Stays (only x) w w' := by
 have kat := at_spec x s (8 * m) w hr
 have kg := get_ok x s (by omega) (8 * m) 8 (by decide) hm w hr
 have hblt := bitsAt_lt s (8 * m) 8
 have hcr : S3.c8 (s.extract 0 m) = crc8N ((bytesOf s).take m) := by unfold S3.c8 crc8N; rw [head_bytes]
 have KC : Hid (∀ wx, Stays (only x) w wx -> G1 63 #[.string (s.extract 0 m)] wx (.int .i64 (S3.c8 (s.extract 0 m) : Int))) := fun wx hst => S3.crc8_spec (s.extract 0 m) (by rw [extract_size s 0 m (by omega)]; omega) wx (hL.only hst hx4).u
 rw [hcr] at KC
 have hclt : crc8N ((bytesOf s).take m) < 65536 := Nat.lt_trans (crcL p8 0#8 _).isLt (by decide)
 have hbe : ((bitsAt s (8 * m) 8 : Int) == ((crc8N ((bytesOf s).take m) : Nat) : Int)) = true := eQt (by omega)
 clear hr hL hc hcr
 generalize bitsAt s (8 * m) 8 = u at *
 generalize crc8N ((bytesOf s).take m) = v at *
 go_enter Tryz.func97, Tryz.ntmps97
 go_wp2_with fail
 refine kat.mono ?_
 rintro en w1 ⟨rfl, hw1⟩
 subst hw1
 clear kat
 go_wp2_with fail
 refine kg.mono ?_
 rintro en w2 ⟨rfl, hr2, hs2⟩
 have HR : Hid (Rd w2 x s (8 * m + 8) /\ Stays (only x) w1 w2) := ⟨hr2, hs2⟩
 clear hr2 hs2 kg
 go_wp2_with fail
 refine (KC.out _ HR.out.2).mono ?_
 rintro en w3 ⟨rfl, hb3⟩
 have HR3 : Hid (Rd w3 x s (8 * m + 8) /\ Stays (only x) w1 w3) := ⟨by unfold Rd; rw [hb3.block _ HR.out.1.lt]; exact HR.out.1, HR.out.2.trans (Stays.of_below hb3 (only x)) (fun _ _ h => h)⟩
 clear hb3 HR KC
 go_wp2_with fail
 go_ret
 exact ⟨rfl, HR3.out⟩
theorem f_sum8_no (x : Nat) (s : ByteArray) (hs : s.size <= 140737488351232) (m : Nat) (hm : 8 * m + 8 <= 8 * s.size) (hc : ¬ bitsAt s (8 * m) 8 = crc8N ((bytesOf s).take m)) (w : World) (hr : Rd w x s (8 * m)) (hL : Lay w) (hx4 : 4 <= x) :
  Calls Tryz.prog 97 #[.pointer (some ⟨x, 0, none⟩), .string s, .int .i64 8, .func (.func 63) #[] #[]] w fun en w' => en = .returned (.bool false) /\ Rd w' x s (8 * m + 8) /\ Stays (only x) w w' := by
 have kat := at_spec x s (8 * m) w hr
 have kg := get_ok x s (by omega) (8 * m) 8 (by decide) hm w hr
 have hblt := bitsAt_lt s (8 * m) 8
 have hcr : S3.c8 (s.extract 0 m) = crc8N ((bytesOf s).take m) := by unfold S3.c8 crc8N; rw [head_bytes]
 have KC : Hid (∀ wx, Stays (only x) w wx -> G1 63 #[.string (s.extract 0 m)] wx (.int .i64 (S3.c8 (s.extract 0 m) : Int))) := fun wx hst => S3.crc8_spec (s.extract 0 m) (by rw [extract_size s 0 m (by omega)]; omega) wx (hL.only hst hx4).u
 rw [hcr] at KC
 have hclt : crc8N ((bytesOf s).take m) < 65536 := Nat.lt_trans (crcL p8 0#8 _).isLt (by decide)
 have hbe : ((bitsAt s (8 * m) 8 : Int) == ((crc8N ((bytesOf s).take m) : Nat) : Int)) = false := eQf (by omega)
 clear hr hL hc hcr
 generalize bitsAt s (8 * m) 8 = u at *
 generalize crc8N ((bytesOf s).take m) = v at *
 go_enter Tryz.func97, Tryz.ntmps97
 go_wp2_with fail
 refine kat.mono ?_
 rintro en w1 ⟨rfl, hw1⟩
 subst hw1
 clear kat
 go_wp2_with fail
 refine kg.mono ?_
 rintro en w2 ⟨rfl, hr2, hs2⟩
 have HR : Hid (Rd w2 x s (8 * m + 8) /\ Stays (only x) w1 w2) := ⟨hr2, hs2⟩
 clear hr2 hs2 kg
 go_wp2_with fail
 refine (KC.out _ HR.out.2).mono ?_
 rintro en w3 ⟨rfl, hb3⟩
 have HR3 : Hid (Rd w3 x s (8 * m + 8) /\ Stays (only x) w1 w3) := ⟨by unfold Rd; rw [hb3.block _ HR.out.1.lt]; exact HR.out.1, HR.out.2.trans (Stays.of_below hb3 (only x)) (fun _ _ h => h)⟩
 clear hb3 HR KC
 go_wp2_with fail
 go_ret
 exact ⟨rfl, HR3.out⟩
theorem f_sum16_end (x : Nat) (s : ByteArray) (hs : s.size <= 140737488351232) (m : Nat) (hm : m <= s.size) (he : 8 * s.size < 8 * m + 16) (w : World) (hr : Rd w x s (8 * m)) :
  Calls Tryz.prog 97 #[.pointer (some ⟨x, 0, none⟩), .string s, .int .i64 16, .func (.func 25) #[] #[]] w fun en w' => en = .returned (.bool false) /\ Lo w w' := by
 have kat := at_spec x s (8 * m) w hr
 have kg := get_end x s (by omega) (8 * m) (by omega) 16 (by decide) he w hr
 clear hr
 go_enter Tryz.func97, Tryz.ntmps97
 go_wp2_with fail
 refine kat.mono ?_
 rintro en w1 ⟨rfl, hw1⟩
 subst hw1
 clear kat
 go_wp2_with fail
 refine kg.mono ?_
 rintro en w2 ⟨rfl, nn, hw2⟩
 have HB : Hid (Lo w1 w2) := by rw [hw2]; exact below_drewN _ _
 clear hw2 kg
 go_wp2_with fail
 go_ret
 exact ⟨rfl, HB.out⟩
theorem f_sum16_yes (x : Nat) (s : ByteArray) (hs : s.size <= 140737488351232) (m : Nat) (hm : 8 * m + 16 <= 8 * s.size) (hc : bitsAt s (8 * m) 16 = crc16N ((bytesOf s).take m)) (w : World) (hr : Rd w x s (8 * m)) (hL : Lay w) (hx4 : 4 <= x) :
  Calls Tryz.prog 97 #[.pointer (some ⟨x, 0, none⟩), .string s, .int .i64 16, .func (.func 25) #[] #[]] w fun en w' => en = .returned (.bool true) /\ Rd w' x s (8 * m + 16) /\ Stays (only x) w w' := by
 have kat := at_spec x s (8 * m) w hr
 have kg := get_ok x s (by omega) (8 * m) 16 (by decide) hm w hr
 have hblt := bitsAt_lt s (8 * m) 16
 have hcr : S3.c16 (s.extract 0 m) = crc16N ((bytesOf s).take m) := by unfold S3.c16 crc16N; rw [head_bytes]
 have KC : Hid (∀ wx, Stays (only x) w wx -> G1 25 #[.string (s.extract 0 m)] wx (.int .i64 (S3.c16 (s.extract 0 m) : Int))) := fun wx hst => S3.crc16_spec (s.extract 0 m) (by rw [extract_size s 0 m (by omega)]; omega) wx (hL.only hst hx4).u
 rw [hcr] at KC
 have hclt : crc16N ((bytesOf s).take m) < 65536 := crc16_lt _
 have hbe : ((bitsAt s (8 * m) 16 : Int) == ((crc16N ((bytesOf s).take m) : Nat) : Int)) = true := eQt (by omega)
 clear hr hL hc hcr
 generalize bitsAt s (8 * m) 16 = u at *
 generalize crc16N ((bytesOf s).take m) = v at *
 go_enter Tryz.func97, Tryz.ntmps97
 go_wp2_with fail
 refine kat.mono ?_
 rintro en w1 ⟨rfl, hw1⟩
 subst hw1
 clear kat
 go_wp2_with fail
 refine kg.mono ?_
 rintro en w2 ⟨rfl, hr2, hs2⟩
 have HR : Hid (Rd w2 x s (8 * m + 16) /\ Stays (only x) w1 w2) := ⟨hr2, hs2⟩
 clear hr2 hs2 kg
 go_wp2_with fail
 refine (KC.out _ HR.out.2).mono ?_
 rintro en w3 ⟨rfl, hb3⟩
 have HR3 : Hid (Rd w3 x s (8 * m + 16) /\ Stays (only x) w1 w3) := ⟨by unfold Rd; rw [hb3.block _ HR.out.1.lt]; exact HR.out.1, HR.out.2.trans (Stays.of_below hb3 (only x)) (fun _ _ h => h)⟩
 clear hb3 HR KC
 go_wp2_with fail
 go_ret
 exact ⟨rfl, HR3.out⟩
end Go.Proofs.YtfpfabmbipmipaaGreatDoor
