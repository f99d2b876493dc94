/- Own text. -/
import Derived.Test.YtfpfabmbipmipaaGreatDoorB44
set_option linter.unusedSimpArgs false
set_option linter.unusedVariables false
set_option maxRecDepth 20000
set_option maxHeartbeats 12800000
namespace Go.Proofs.YtfpfabmbipmipaaGreatDoor
open Go.RowKit
theorem szb_ext (n : Nat) : szb (n : Int) = ((extN n : Nat) : Int) /\ extN n <= 2 := by
 unfold szb extN
 by_cases a : n = 6
 ·rw [if_pos (by omega), if_pos a]; exact ⟨rfl, by decide⟩
 ·by_cases b : n = 7
  ·rw [if_neg (by omega), if_pos (by omega), if_neg a, if_pos b]; exact ⟨rfl, by decide⟩
  ·rw [if_neg (by omega), if_neg (by omega), if_neg a, if_neg b]; exact ⟨rfl, by decide⟩
theorem rtb_rw (n : Nat) : rtb (n : Int) = ((rwN n : Nat) : Int) /\ rwN n <= 2 := by
 unfold rtb rwN
 by_cases a : n = 12
 ·rw [if_pos (by omega), if_pos a]; exact ⟨rfl, by decide⟩
 ·by_cases b : n = 13
  ·rw [if_neg (by omega), if_pos (by omega), if_neg a, if_pos b]; exact ⟨rfl, by decide⟩
  ·by_cases c : n = 14
   ·rw [if_neg (by omega), if_neg (by omega), if_pos (by omega), if_neg a, if_neg b, if_pos c]; exact ⟨rfl, by decide⟩
   ·rw [if_neg (by omega), if_neg (by omega), if_neg (by omega), if_neg a, if_neg b, if_neg c]; exact ⟨rfl, by decide⟩
def hdB (s : ByteArray) (B : List Nat) (num k : Nat) : Hd := ⟨((B.getD 1 0 % 2 : Nat) : Int) == 1, ((B.getD 2 0 / 16 : Nat) : Int), ((B.getD 2 0 % 16 : Nat) : Int), ((B.getD 3 0 / 16 : Nat) : Int), ((B.getD 3 0 % 16 / 2 : Nat) : Int), (num : Int), (bitsAt s (32 + 8 * k) (8 * extN (B.getD 2 0 / 16)) : Int), (bitsAt s (32 + 8 * k + 8 * extN (B.getD 2 0 / 16)) (8 * rwN (B.getD 2 0 % 16)) : Int)⟩
theorem mark_iff (B : List Nat) (hB : ∀ b ∈ B, b < 256) (h4 : 4 <= B.length) : (B.getD 0 0 * 128 + B.getD 1 0 / 2 = 32764 /\ B.getD 3 0 % 2 = 0) ↔ hdOk4 B := by
 have b0 := getD_byte B hB 0
 have b1 := getD_byte B hB 1
 constructor
 ·intro h; exact ⟨h4, by omega, by omega, h.2⟩
 ·intro h; have h1 := h.2.1; have h2 := h.2.2.1; exact ⟨by omega, h.2.2.2⟩
theorem hdB_size (s : ByteArray) (B : List Nat) (hs : bytesOf s = B) (num k : Nat) (hl : 4 + k + extN (B.getD 2 0 / 16) <= B.length) : sizS (hdB s B num k).sc (hdB s B num k).sz = ((sizR B (4 + k) (B.getD 2 0 / 16) : Nat) : Int) := by
 have hB : ∀ b ∈ B, b < 256 := by rw [<- hs]; exact bytesOf_lt s
 have b2 := getD_byte B hB 2
 show sizS ((B.getD 2 0 / 16 : Nat) : Int) (bitsAt s (32 + 8 * k) (8 * extN (B.getD 2 0 / 16)) : Int) = _
 generalize hsc : B.getD 2 0 / 16 = sc at *
 have hsc16 : sc < 16 := by omega
 by_cases c6 : sc = 6
 ·have e : extN sc = 1 := by unfold extN; rw [if_pos c6]
  rw [e] at hl ⊢
  have hb := byte_at8 s B hs (4 + k) (by omega)
  rw [show 8 * (4 + k) = 32 + 8 * k by omega] at hb
  unfold sizS sizR
  rw [show 8 * 1 = 8 from rfl, hb, if_pos (.inl (by omega)), if_pos c6]; omega
 ·by_cases c7 : sc = 7
  ·have e : extN sc = 2 := by unfold extN; rw [if_neg c6, if_pos c7]
   rw [e] at hl ⊢
   have hb := byte_at16 s B hs (4 + k) (by omega)
   rw [show 8 * (4 + k) = 32 + 8 * k by omega] at hb
   unfold sizS sizR
   rw [show 8 * 2 = 16 from rfl, hb, if_pos (.inr (by omega)), if_neg c6, if_pos c7]; omega
  ·have hz := sizN_all sc hsc16
   unfold sizS sizR
   rw [if_neg (by omega), if_neg c6, if_neg c7, siz_eq (sc : Int) (by omega)]
   omega
theorem hdB_rate (s : ByteArray) (B : List Nat) (hs : bytesOf s = B) (num k : Nat) (st : Int) (hl : 4 + k + extN (B.getD 2 0 / 16) + rwN (B.getD 2 0 % 16) <= B.length) (h0 : ¬ B.getD 2 0 % 16 = 0) : ratS (hdB s B num k).rc (hdB s B num k).rt st = ((ratR B (4 + k + extN (B.getD 2 0 / 16)) (B.getD 2 0 % 16) : Nat) : Int) := by
 have hB : ∀ b ∈ B, b < 256 := by rw [<- hs]; exact bytesOf_lt s
 show ratS ((B.getD 2 0 % 16 : Nat) : Int) (bitsAt s (32 + 8 * k + 8 * extN (B.getD 2 0 / 16)) (8 * rwN (B.getD 2 0 % 16)) : Int) st = _
 generalize hsc : extN (B.getD 2 0 / 16) = ex at *
 generalize hrc : B.getD 2 0 % 16 = rc at *
 have hrc16 : rc < 16 := by omega
 have hu := rtb_all (rc : Int)
 have at_ : 32 + 8 * k + 8 * ex = 8 * (4 + k + ex) := by omega
 rw [at_]
 unfold ratS
 rw [if_neg (by omega)]
 by_cases c12 : rc = 12
 ·have e : rwN rc = 1 := by unfold rwN; rw [if_pos c12]
  rw [e] at hl ⊢
  have hb := byte_at8 s B hs (4 + k + ex) (by omega)
  unfold ratR
  have ru : rtu (rc : Int) = 1000 := by unfold rtu; rw [if_pos (by omega)]
  rw [show 8 * 1 = 8 from rfl, hb, if_pos (by omega), if_pos c12, ru]; omega
 ·by_cases c13 : rc = 13
  ·have e : rwN rc = 2 := by unfold rwN; rw [if_neg c12, if_pos c13]
   rw [e] at hl ⊢
   have hb := byte_at16 s B hs (4 + k + ex) (by omega)
   unfold ratR
   have ru : rtu (rc : Int) = 1 := by unfold rtu; rw [if_neg (by omega), if_neg (by omega)]
   rw [show 8 * 2 = 16 from rfl, hb, if_pos (by omega), if_neg c12, if_pos c13, ru]; omega
  ·by_cases c14 : rc = 14
   ·have e : rwN rc = 2 := by unfold rwN; rw [if_neg c12, if_neg c13, if_pos c14]
    rw [e] at hl ⊢
    have hb := byte_at16 s B hs (4 + k + ex) (by omega)
    unfold ratR
    have ru : rtu (rc : Int) = 10 := by unfold rtu; rw [if_neg (by omega), if_pos (by omega)]
    rw [show 8 * 2 = 16 from rfl, hb, if_pos (by omega), if_neg c12, if_neg c13, if_pos c14, ru]; omega
   ·have hz := ratN_all rc hrc16
    unfold ratR
    rw [if_neg (by omega), if_neg c12, if_neg c13, if_neg c14]
    by_cases c15 : rc = 15
    ·subst c15; decide
    ·rw [rat_eq (rc : Int) (by omega)]; omega
theorem kh_ok (s : ByteArray) (hs : s.size <= 140737488351232) (B : List Nat) (hBs : bytesOf s = B) (num k : Nat) (h4 : hdOk4 B) (hu : uncode (B.drop 4) = (num, k, 0)) (hlen : 4 + k + extN (B.getD 2 0 / 16) + rwN (B.getD 2 0 % 16) + 1 <= B.length) (hcrc : B.getD (4 + k + extN (B.getD 2 0 / 16) + rwN (B.getD 2 0 % 16)) 0 = crc8N (B.take (4 + k + extN (B.getD 2 0 / 16) + rwN (B.getD 2 0 % 16)))) :
  ∀ x wx, Rd wx x s 0 -> Lay wx -> 4 <= x -> Calls Tryz.prog 43 #[.pointer (some ⟨x, 0, none⟩), .string s] wx fun en w' => en = .returned (.tuple #[.agg (hdC (hdB s B num k)), .bool true]) /\ Rd w' x s (8 * (4 + k + extN (B.getD 2 0 / 16) + rwN (B.getD 2 0 % 16) + 1)) /\ Stays (only x) wx w' := fun x wx hr hL hx4 => by
 have hB : ∀ b ∈ B, b < 256 := by rw [<- hBs]; exact bytesOf_lt s
 have hbl : B.length = s.size := by rw [<- hBs]; exact bytesOf_length s
 obtain ⟨c1, c2, c3, c4, c5, c6, c7⟩ := codes_at s B hBs h4.1
 have hz := szb_ext (B.getD 2 0 / 16)
 have hrw := rtb_rw (B.getD 2 0 % 16)
 have hsum := byte_at8 s B hBs (4 + k + extN (B.getD 2 0 / 16) + rwN (B.getD 2 0 % 16)) (by omega)
 have hk := grp1.2.2.2.2.2 x s hs (by have := h4.1; omega) _ _ _ _ _ _ _ c1 c2 c3 c4 c5 c6 c7 (((B.getD 1 0 % 2 : Nat) : Int) == 1) rfl ((mark_iff B hB h4.1).2 h4) num k (by rw [hBs]; exact hu) (extN (B.getD 2 0 / 16)) (rwN (B.getD 2 0 % 16)) hz.1 hrw.1 hz.2 hrw.2 (by omega) (by rw [hsum, hBs]; exact hcrc) wx hr hL hx4
 refine hk.mono fun en w' q => ⟨q.1, ?_, q.2.2⟩
 have g := q.2.1
 rw [show 32 + 8 * k + 8 * extN (B.getD 2 0 / 16) + 8 * rwN (B.getD 2 0 % 16) + 8 = 8 * (4 + k + extN (B.getD 2 0 / 16) + rwN (B.getD 2 0 % 16) + 1) by omega] at g
 exact g
theorem hdB_rng (s : ByteArray) (B : List Nat) (hBs : bytesOf s = B) (num k : Nat) : (0 <= (hdB s B num k).sc /\ (hdB s B num k).sc < 16) /\ (0 <= (hdB s B num k).rc /\ (hdB s B num k).rc < 16) /\ (0 <= (hdB s B num k).cc /\ (hdB s B num k).cc < 16) /\ (0 <= (hdB s B num k).wc /\ (hdB s B num k).wc < 8) /\ (0 <= (hdB s B num k).sz /\ (hdB s B num k).sz <= 65535) /\ (0 <= (hdB s B num k).rt /\ (hdB s B num k).rt <= 65535) := by
 have hB : ∀ b ∈ B, b < 256 := by rw [<- hBs]; exact bytesOf_lt s
 have b2 := getD_byte B hB 2
 have b3 := getD_byte B hB 3
 have h1 := bitsAt_lt s (32 + 8 * k) (8 * extN (B.getD 2 0 / 16))
 have h2 := bitsAt_lt s (32 + 8 * k + 8 * extN (B.getD 2 0 / 16)) (8 * rwN (B.getD 2 0 % 16))
 have e1 := (szb_ext (B.getD 2 0 / 16)).2
 have e2 := (rtb_rw (B.getD 2 0 % 16)).2
 have p1 : 2 ^ (8 * extN (B.getD 2 0 / 16)) <= 2 ^ 16 := Nat.pow_le_pow_right (by decide) (by omega)
 have p2 : 2 ^ (8 * rwN (B.getD 2 0 % 16)) <= 2 ^ 16 := Nat.pow_le_pow_right (by decide) (by omega)
 have e16 : (2 : Nat) ^ 16 = 65536 := by decide
 unfold hdB
 refine ⟨?_, ?_, ?_, ?_, ?_, ?_⟩ <;> simp only <;> omega
theorem hdB_fm (s : ByteArray) (B : List Nat) (hBs : bytesOf s = B) (num k : Nat) (h4 : hdOk4 B) (hl : 4 + k + extN (B.getD 2 0 / 16) <= B.length) (S : List Sb) : (⟨(hdB s B num k).v, (hdB s B num k).num, sizS (hdB s B num k).sc (hdB s B num k).sz, (hdB s B num k).sc, (hdB s B num k).rc, (hdB s B num k).wc, (if (hdB s B num k).cc < 8 then 0 else (hdB s B num k).cc - 7), S⟩ : Fm) = hdFm B num k S := by
 rw [hdB_size s B hBs num k hl]
 have hv : (((B.getD 1 0 % 2 : Nat) : Int) == 1) = decide (B.getD 1 0 = 249) := by
  rcases h4.2.2.1 with e | e
  ·rw [e]; rfl
  ·rw [e]; rfl
 have hm : (if ((B.getD 3 0 / 16 : Nat) : Int) < 8 then (0 : Int) else ((B.getD 3 0 / 16 : Nat) : Int) - 7) = moN (B.getD 3 0 / 16) := by
  unfold moN
  by_cases c : 8 <= B.getD 3 0 / 16
  ·rw [if_neg (by omega), if_pos c]
  ·rw [if_pos (by omega), if_neg c]
 unfold hdFm
 show (⟨((B.getD 1 0 % 2 : Nat) : Int) == 1, (num : Int), _, ((B.getD 2 0 / 16 : Nat) : Int), ((B.getD 2 0 % 16 : Nat) : Int), ((B.getD 3 0 % 16 / 2 : Nat) : Int), (if ((B.getD 3 0 / 16 : Nat) : Int) < 8 then 0 else ((B.getD 3 0 / 16 : Nat) : Int) - 7), S⟩ : Fm) = _
 rw [hv, hm]
theorem fr_ok (h : Hd) (a b c d : Int) (i : Inf) (e : Int) (s : ByteArray) (hh : (0 <= h.sc /\ h.sc < 16) /\ (0 <= h.rc /\ h.rc < 16) /\ (0 <= h.cc /\ h.cc < 16) /\ (0 <= h.wc /\ h.wc < 8) /\ (0 <= h.sz /\ h.sz <= 65535) /\ (0 <= h.rt /\ h.rt <= 65535)) (hbig : sizS h.sc h.sz <= 4608) (h1 : (if h.cc < 8 then h.cc + 1 else 2) = i.ch) (h2 : ratS h.rc h.rt i.rate = i.rate) (h3 : widS h.wc i.wd = i.wd) (h4 : (mayF i /\ (1 <= (sizS h.sc h.sz) /\ (sizS h.sc h.sz) <= 4608) /\ (0 <= h.num /\ h.num <= (if h.v then 68719476735 else 2147483647)) /\ (0 <= (if h.cc < 8 then 0 else h.cc - 7) /\ (if h.cc < 8 then 0 else h.cc - 7) <= 3 /\ ((if h.cc < 8 then 0 else h.cc - 7) = 0 ∨ i.ch = 2)))) (w : World) (hL : Lay w) : Calls Tryz.prog 44 #[.agg (hdC h), infV a b c d i e s] w fun en w' => en = .returned (.tuple #[fmV ⟨h.v, h.num, sizS h.sc h.sz, h.sc, h.rc, h.wc, (if h.cc < 8 then 0 else h.cc - 7), []⟩ none 0, .int .i64 0]) /\ Lo w w' := by
 have KF : Hid (∀ wx, G1 35 #[fmV ⟨h.v, h.num, sizS h.sc h.sz, h.sc, h.rc, h.wc, (if h.cc < 8 then 0 else h.cc - 7), []⟩ none 0, infV a b c d i e s] wx (.bool true)) := fun wx => f_fits ⟨h.v, h.num, sizS h.sc h.sz, h.sc, h.rc, h.wc, (if h.cc < 8 then 0 else h.cc - 7), []⟩ none 0 a b c d i e s true (tt_iff (h4)) wx
 clear h4
 have b1 : ((if h.cc < 8 then h.cc + 1 else 2) == i.ch) = true := by rw [beq_iff_eq]; exact h1
 clear h1
 have b2 : (ratS h.rc h.rt i.rate == i.rate) = true := by rw [beq_iff_eq]; exact h2
 clear h2
 have b3 : (widS h.wc i.wd == i.wd) = true := by rw [beq_iff_eq]; exact h3
 clear h3
 obtain ⟨hsc, hrc, hcc, hwc, hsz, hrt⟩ := hh
 have kch := f_chS h.cc hcc
 have hsr : 0 <= sizS h.sc h.sz /\ sizS h.sc h.sz <= 70000 := sizS_rng h.sc h.sz hsc hsz
 have KZ : Hid (∀ wx, Lay wx -> G0 99 #[.int .i64 h.sc, .int .i64 h.sz] wx (.int .i64 (sizS h.sc h.sz))) := fun wx hl => f_sizS h.sc h.sz hsc (by omega) wx hl
 have KR : Hid (∀ wx, Lay wx -> G0 100 #[.int .i64 h.rc, .int .i64 h.rt, .int .i64 i.rate] wx (.int .i64 (ratS h.rc h.rt i.rate))) := fun wx hl => f_ratS h.rc h.rt i.rate hrc (by omega) (by rcases rtb_all h.rc with ⟨_, _, u⟩ | ⟨_, _, u⟩ | ⟨_, _, u⟩ | ⟨_, _, _, _, u⟩ <;> (rw [u]; omega)) wx hl
 have KW : Hid (∀ wx, Lay wx -> G0 101 #[.int .i64 h.wc, .int .i64 i.wd] wx (.int .i64 (widS h.wc i.wd))) := fun wx hl => f_widS h.wc i.wd hwc wx hl
 have HLA : Hid (Lay (((w.alloc (.cells (hdC h) 78)).alloc (.cells (infC a b c d i e s) 26)).alloc (.cells (fmC F0 none 0) 24))) := hL.below ((aQ.alloc (by simp) _).alloc (by simp; omega) _)
 have HB0 : Hid (Lo w (((w.alloc (.cells (hdC h) 78)).alloc (.cells (infC a b c d i e s) 26)).alloc (.cells (fmC F0 none 0) 24))) := (aQ.alloc (by simp) _).alloc (by simp; omega) _
 have HH0 : Hid ((((w.alloc (.cells (hdC h) 78)).alloc (.cells (infC a b c d i e s) 26)).alloc (.cells (fmC F0 none 0) 24)).heap[w.heap.size]? = some (.cells (hdC h) 78 (0, 0))) := S3.at_new1 w _ _ _
 have HI0 : Hid ((((w.alloc (.cells (hdC h) 78)).alloc (.cells (infC a b c d i e s) 26)).alloc (.cells (fmC F0 none 0) 24)).heap[w.heap.size + 1]? = some (.cells (infC a b c d i e s) 26 (0, 0))) := S3.at_new2 w _ _ _
 have HZ0 : Hid ((((w.alloc (.cells (hdC h) 78)).alloc (.cells (infC a b c d i e s) 26)).alloc (.cells (fmC F0 none 0) 24)).heap[w.heap.size + 2]? = some (.cells (fmC F0 none 0) 24 (0, 0))) := S3.at_new3 w _ _ _
 have HSZ : Hid ((((w.alloc (.cells (hdC h) 78)).alloc (.cells (infC a b c d i e s) 26)).alloc (.cells (fmC F0 none 0) 24)).heap.size = w.heap.size + 3) := by show _ = _; simp
 clear hL hsc hrc hcc hwc
 generalize sizS h.sc h.sz = size at *
 generalize ratS h.rc h.rt i.rate = rr at *
 generalize widS h.wc i.wd = ww at *
 generalize (if h.cc < 8 then h.cc + 1 else 2) = nch at *
 generalize (if h.cc < 8 then 0 else h.cc - 7) = mo at *
 go_enter Tryz.func44, Tryz.ntmps44
 go_upto_region 1 with fail
 generalize World.alloc _ _ = wa at *
 obtain ⟨z0, z1, z2, z3, z4, z5, z6, z7⟩ := hd_cells HH0.out
 go_wp2_with fail
 refine (kch _).mono ?_
 rintro en w1 ⟨rfl, hw1⟩
 subst hw1
 clear kch
 go_wp2_with fail
 have HLD : Hid (Lay w1.drew) := HLA.out.below dQ
 go_region_held3 (fun wx => wx.cell? ⟨w.heap.size, 0, none⟩ = some (.bool h.v) /\ wx.cell? ⟨w.heap.size, 1, none⟩ = some (.int .i64 h.sc) /\ wx.cell? ⟨w.heap.size, 2, none⟩ = some (.int .i64 h.rc) /\ wx.cell? ⟨w.heap.size, 3, none⟩ = some (.int .i64 h.cc) /\ wx.cell? ⟨w.heap.size, 4, none⟩ = some (.int .i64 h.wc) /\ wx.cell? ⟨w.heap.size, 5, none⟩ = some (.int .i64 h.num) /\ wx.cell? ⟨w.heap.size, 6, none⟩ = some (.int .i64 h.sz) /\ wx.cell? ⟨w.heap.size, 7, none⟩ = some (.int .i64 h.rt)) (go_keep)
  ((go_at_call 99; refine (KZ.out _ (by first | exact HLD.out | exact HLD.out.below aQ)).mono ?_; rintro e w4 ⟨rfl, hw4⟩; subst hw4))
 all_goals (
  have HG : Hid (GX w h a b c d i e s w1.heap.size ⟨h.v, h.num, size, h.sc, h.rc, h.wc, mo, []⟩ ((w1.alloc (.cells (fmC ⟨h.v, h.num, size, h.sc, h.rc, h.wc, mo, []⟩ none 0) 24)).drew)) := by
   have hb : Lo w1 ((w1.alloc (.cells (fmC ⟨h.v, h.num, size, h.sc, h.rc, h.wc, mo, []⟩ none 0) 24)).drew) := aQ.drew
   refine ⟨?_, ?_, ?_, ?_, HB0.out.trans (hb.mono HB0.out.size), by have := HSZ.out; omega⟩
   ·rw [hb.block _ (lt_of_block HH0.out)]; exact HH0.out
   ·rw [hb.block _ (lt_of_block HI0.out)]; exact HI0.out
   ·rw [hb.block _ (lt_of_block HZ0.out)]; exact HZ0.out
   ·exact heap_alloc_new _ _
  have HL5 : Hid (Lay ((w1.alloc (.cells (fmC ⟨h.v, h.num, size, h.sc, h.rc, h.wc, mo, []⟩ none 0) 24)).drew)) := HLA.out.below (aQ.drew)
  clear HLD HB0 HH0 HI0 HZ0 HLA KZ HSZ
  try clear hHeld
  generalize World.drew (World.alloc _ _) = w5 at *
  generalize w1.heap.size = q at *
  obtain ⟨f0, f1, f2, f3, f4, f5, f6, f7⟩ := fm_cells HG.out.fb
  obtain ⟨k0, k1, k2, k3, k4, k5, k6, k7⟩ := fm_cells HG.out.zb
  have r0 := row_frozen HG.out.zb 0
  have r1 := row_frozen HG.out.zb 1
  have r2 := row_frozen HG.out.zb 2
  have r3 := row_frozen HG.out.zb 3
  have r4 := row_frozen HG.out.zb 4
  have r5 := row_frozen HG.out.zb 5
  have r6 := row_frozen HG.out.zb 6
  have r7 := row_frozen HG.out.zb 7
  obtain ⟨z0, z1, z2, z3, z4, z5, z6, z7⟩ := hd_cells HG.out.hb
  obtain ⟨i0, i1, i2, i3, i4, i5, i6, i7, i8⟩ := inf_cells HG.out.ib
  go_wp2_with fail
  go_quiet (first | (go_at_call 100; exact Calls.quiet_of_same (KR.out _ (HL5.out.drewN _))) | (go_at_call 101; exact Calls.quiet_of_same (KW.out _ (HL5.out.drewN _))))
  have HG6 : Hid (GX w h a b c d i e s q ⟨h.v, h.num, size, h.sc, h.rc, h.wc, mo, []⟩ (w5.drewN nq)) := ⟨HG.out.hb, HG.out.ib, HG.out.zb, HG.out.fb, HG.out.below.trans ((below_drewN _ _).mono HG.out.below.size), HG.out.hq⟩
  go_wp2_with fail
  refine (KF.out _).mono ?_
  rintro en w8 ⟨rfl, hb8⟩
  have HG8 : Hid (GX w h a b c d i e s q ⟨h.v, h.num, size, h.sc, h.rc, h.wc, mo, []⟩ w8) := by
   have g := HG6.out
   refine ⟨?_, ?_, ?_, ?_, g.below.trans (hb8.mono g.below.size), g.hq⟩
   ·rw [hb8.block _ (lt_of_block g.hb)]; exact g.hb
   ·rw [hb8.block _ (lt_of_block g.ib)]; exact g.ib
   ·rw [hb8.block _ (lt_of_block g.zb)]; exact g.zb
   ·rw [hb8.block _ (lt_of_block g.fb)]; exact g.fb
  clear hb8 HG HG6 f0 f1 f2 f3 f4 f5 f6 f7 k0 k1 k2 k3 k4 k5 k6 k7 r0 r1 r2 r3 r4 r5 r6 r7 z0 z1 z2 z3 z4 z5 z6 z7 i0 i1 i2 i3 i4 i5 i6 i7 i8
  obtain ⟨f0, f1, f2, f3, f4, f5, f6, f7⟩ := fm_cells HG8.out.fb
  obtain ⟨k0, k1, k2, k3, k4, k5, k6, k7⟩ := fm_cells HG8.out.zb
  have r0 := row_frozen HG8.out.zb 0
  have r1 := row_frozen HG8.out.zb 1
  have r2 := row_frozen HG8.out.zb 2
  have r3 := row_frozen HG8.out.zb 3
  have r4 := row_frozen HG8.out.zb 4
  have r5 := row_frozen HG8.out.zb 5
  have r6 := row_frozen HG8.out.zb 6
  have r7 := row_frozen HG8.out.zb 7
  go_wp2_with fail
  generalize hwf : World.setCell _ _ _ = wf
  have hH : wf.heap[w.heap.size + 2]? = some (.cells (fmC ⟨h.v, h.num, size, h.sc, h.rc, h.wc, mo, []⟩ none 0) 24 (0, 0)) := by rw [<- hwf]; exact set8_a _ _ _ _ _ _ _ _ _ HG8.out.zb
  have hS : Lo w wf := by rw [<- hwf]; exact set8_b _ _ _ _ _ _ _ _ _ _ (by omega) HG8.out.below
  refine bodyPost_ret (v := .tuple #[.agg (fmC ⟨h.v, h.num, size, h.sc, h.rc, h.wc, mo, []⟩ none 0), .int .i64 0]) ?_ rfl ⟨rfl, hS⟩
  rw [results_two rfl]
  have hld := run_loadVar_row (P := Tryz.prog) (wf) (w.heap.size + 2) 24 24 (fmC ⟨h.v, h.num, size, h.sc, h.rc, h.wc, mo, []⟩ none 0) (0, 0) _ hH Tryz.underlying24 rfl info_Frame
  simp [asAddr, Result.andThen, hld])
theorem wid_of {wc : Nat} {v : Int} (hw : wc < 8) : widS (wc : Int) v = if wc = 0 then v else widN wc := by
 unfold widS
 by_cases c : wc = 0
 ·rw [if_pos (by omega), if_pos c]
 ·rw [if_neg (by omega), if_neg c, wid_eq (wc : Int) (by omega)]
theorem parse_ok (s : ByteArray) (hs : s.size <= 140737488351232) (a b c d : Int) (i : Inf) (e : Int) (sc : ByteArray) (hI : I64 i.rate /\ I64 i.ch /\ I64 i.wd) (f : Fm) (P : List (List Int)) (R : List Nat) (hok : okF f i P) (hB : bytesOf s = frL f i P ++ R) (w : World) (hL : Lay w) :
  Calls Tryz.prog 13 #[.string s, infV a b c d i e sc] w fun en w' => ∃ ro rk so sk, en = .returned (.tuple #[.slice ro P.length rk, fmV f so sk, .int .i64 ((frL f i P).length : Int), .int .i64 0]) /\ RowsAt w' ro P /\ FmAt w' f so sk /\ Lo w w' := by
 obtain ⟨R2, e1, hsub, hpl, hpad, hlen, hsum⟩ := fr_back f i P R s hok hB
 have hH := hok.1.1
 obtain ⟨h4, hu, hnum, c1, c2, c3, c4, hcl, hcr, hfm, hfit⟩ := hed_back f i R2 hH
 have hBB : bytesOf s = hedC f i ++ R2 := by rw [hB, e1]
 have hbs : (bytesOf s).length = s.size := bytesOf_length s
 rw [<- hBB] at h4 hu hnum c1 c2 c3 c4 hcr hfm hfit
 rw [<- hB] at hsum
 obtain ⟨B, hBd⟩ : ∃ B, B = bytesOf s := ⟨_, rfl⟩
 rw [<- hBd] at h4 hu hnum c1 c2 c3 c4 hcr hfm hfit hsum hbs
 have hBlen : B.length = (hedC f i).length + R2.length := by rw [hBd, hBB, List.length_append]
 have hfr : (frL f i P).length + R.length = B.length := by rw [hBd, hB, List.length_append]
 rw [<- c1, <- c2] at hcl hcr
 have kh := kh_ok s hs B hBd.symm f.num.toNat (clen f.num.toNat) h4 hu (by omega) hcr
 rw [<- hcl] at kh
 have hsize := hdB_size s B hBd.symm f.num.toNat (clen f.num.toNat) (by omega)
 have hrng := hdB_rng s B hBd.symm f.num.toNat (clen f.num.toNat)
 have hf0 := hdB_fm s B hBd.symm f.num.toNat (clen f.num.toNat) h4 (by omega) []
 have hfS := hdB_fm s B hBd.symm f.num.toNat (clen f.num.toNat) h4 (by omega) f.S
 rw [hfm] at hfS
 obtain ⟨q1, q2, q3, q4, q5, q6, q7⟩ := hfit
 have hb3 := getD_byte B (by rw [hBd]; exact bytesOf_lt s) 3
 have hsz : sizS (hdB s B f.num.toNat (clen f.num.toNat)).sc (hdB s B f.num.toNat (clen f.num.toNat)).sz = f.size := congrArg Fm.size hfS
 have hmo : (if (hdB s B f.num.toNat (clen f.num.toNat)).cc < 8 then 0 else (hdB s B f.num.toNat (clen f.num.toNat)).cc - 7) = f.mo := congrArg Fm.mo hfS
 have hvv : (hdB s B f.num.toNat (clen f.num.toNat)).v = f.v := congrArg Fm.v hfS
 have hnn : (hdB s B f.num.toNat (clen f.num.toNat)).num = f.num := congrArg Fm.num hfS
 have hch2 : (if (hdB s B f.num.toNat (clen f.num.toNat)).cc < 8 then (hdB s B f.num.toNat (clen f.num.toNat)).cc + 1 else 2) = i.ch := by
  rw [<- q6]
  show (if ((B.getD 3 0 / 16 : Nat) : Int) < 8 then ((B.getD 3 0 / 16 : Nat) : Int) + 1 else 2) = _
  by_cases cc : 8 <= B.getD 3 0 / 16
  ·rw [if_neg (by omega), if_pos cc]
  ·rw [if_pos (by omega), if_neg cc]
 have hrt : ratS (hdB s B f.num.toNat (clen f.num.toNat)).rc (hdB s B f.num.toNat (clen f.num.toNat)).rt i.rate = i.rate := by
  by_cases c0 : B.getD 2 0 % 16 = 0
  ·show ratS ((B.getD 2 0 % 16 : Nat) : Int) _ i.rate = _
   unfold ratS; rw [if_pos (by omega)]
  ·rw [hdB_rate s B hBd.symm f.num.toNat (clen f.num.toNat) i.rate (by omega) c0, c1, c2]
   rcases q4 with g | g
   ·rw [c2] at c0; exact absurd g c0
   ·exact g
 have hwd : widS (hdB s B f.num.toNat (clen f.num.toNat)).wc i.wd = i.wd := by
  show widS ((B.getD 3 0 % 16 / 2 : Nat) : Int) i.wd = _
  rw [wid_of (by omega), c3]
  by_cases c0 : f.wc.toNat = 0
  ·rw [if_pos c0]
  ·rw [if_neg c0]
   rcases q7 with g | g
   ·exact absurd g c0
   ·exact g.2.2
 have KF : Hid (∀ wx, Lay wx -> G1 44 #[.agg (hdC (hdB s B f.num.toNat (clen f.num.toNat))), infV a b c d i e sc] wx (.tuple #[fmV (hdFm B f.num.toNat (clen f.num.toNat) []) none 0, .int .i64 0])) := fun wx hl => by
  have g := fr_ok (hdB s B f.num.toNat (clen f.num.toNat)) a b c d i e sc hrng (by rw [hsz]; exact hH.2.1.2) hch2 hrt hwd (by rw [hsz, hmo, hvv, hnn]; exact ⟨hH.1, hH.2.1, hH.2.2.1, hH.2.2.2.1⟩) wx hl
  rw [hf0] at g
  exact g
 have hz0 : (hdFm B f.num.toNat (clen f.num.toNat) []).size = f.size := by rw [<- hsz, hsize]; rfl
 have hm0 : (hdFm B f.num.toNat (clen f.num.toNat) []).mo = f.mo := c4
 have hall : (⟨(hdFm B f.num.toNat (clen f.num.toNat) []).v, (hdFm B f.num.toNat (clen f.num.toNat) []).num, (hdFm B f.num.toNat (clen f.num.toNat) []).size, (hdFm B f.num.toNat (clen f.num.toNat) []).sc, (hdFm B f.num.toNat (clen f.num.toNat) []).rc, (hdFm B f.num.toNat (clen f.num.toNat) []).wc, (hdFm B f.num.toNat (clen f.num.toNat) []).mo, f.S⟩ : Fm) = f := hfm
 have hS0 : (hdFm B f.num.toNat (clen f.num.toNat) []).S = [] := rfl
 generalize hdFm B f.num.toNat (clen f.num.toNat) [] = f0 at *
 generalize hdB s B f.num.toNat (clen f.num.toNat) = hd at *
 generalize hbl : (subsB f i P f.S.length).length = bl at *
 generalize hhl : (hedC f i).length = hl at *
 have hch := hH.1.1
 have hm : hl + (bl + 7) / 8 = (8 * hl + bl + 7) / 8 := by omega
 rw [hm] at hsum
 have ha1 : 8 * hl + bl <= 8 * s.size := by omega
 have hp : bitsAt s (8 * hl + bl) (padOf (8 * hl + bl)) = 0 := by
  rw [pad_zero s _ ha1, show 8 * ((8 * hl + bl + 7) / 8) - (8 * hl + bl) = 8 * ((bl + 7) / 8) - bl by omega]
  exact hpad
 have hc16 : bitsAt s (8 * ((8 * hl + bl + 7) / 8)) 16 = crc16N ((bytesOf s).take ((8 * hl + bl + 7) / 8)) := by
  rw [byte_at16 s B hBd.symm _ (by omega), <- hBd]
  have g := hsum
  rw [take2_at B _ (by omega)] at g
  have hlt := crc16_lt (B.take ((8 * hl + bl + 7) / 8))
  unfold be2 at g
  injection g with g1 g2
  injection g2 with g2 _
  omega
 have KRE : Hid (∀ x wx, Rd wx x s (8 * hl + bl) -> Lay wx -> 4 <= x -> Calls Tryz.prog 47 #[.pointer (some ⟨x, 0, none⟩), .string s] wx fun en w' => en = .returned (.bool true) /\ Rd w' x s (8 * ((8 * hl + bl + 7) / 8) + 16) /\ Stays (only x) wx w') := fun x wx hr hl4 hx4 => re_ok x s hs (8 * hl + bl) _ rfl ha1 wx hr hl4 hx4 hp (by omega) hc16
 have KH := kQ kh
 have f1 : f0.num = f.num := by have g := congrArg Fm.num hall; exact g
 have f2 : f0.sc = f.sc := by have g := congrArg Fm.sc hall; exact g
 have f3 : f0.rc = f.rc := by have g := congrArg Fm.rc hall; exact g
 have f4 : f0.wc = f.wc := by have g := congrArg Fm.wc hall; exact g
 have n36 := num36 hH
 have zr := hH.2.2.2.2.1.1
 have rr := rc_rng hH.2.2.2.2.2.1
 have wr := wc_rng hH.2.2.2.2.2.2
 have hsz2 := hH.2.1
 have hmm := hH.2.2.2.1
 have hps := grp2.2 s hs a b c d i e sc w hL hH.1.2.1 hch hd (8 * hl) (by omega) KH f0 hS0 (by rw [hz0]; exact hsz2) (by rw [hm0]; exact hmm) KF (chnL f.mo P) f.S (8 * hl + bl) (by show subsP s (8 * hl) i f0.mo f0.size i.ch.toNat = _; rw [hm0, hz0]; exact hsub) (by rw [hm0, hpl]; exact fun l hl2 => (hok.2.1.2 l hl2).2) ((8 * hl + bl + 7) / 8) (by omega) ⟨⟨by omega, by omega⟩, ⟨by omega, by omega⟩, ⟨by omega, by omega⟩, ⟨by omega, by omega⟩, ⟨by omega, by omega⟩, ⟨by omega, by omega⟩⟩ KRE
 rw [hm0, hpl, <- hm0, hall] at hps
 refine hps.mono fun en w' q => ?_
 obtain ⟨ro, rk, so, sk, z1, z2, z3, z4⟩ := q
 have hn : (((8 * hl + bl + 7) / 8 : Nat) : Int) + 2 = ((frL f i P).length : Int) := by omega
 rw [hn] at z1
 exact ⟨ro, rk, so, sk, z1, z2, z3, z4⟩
theorem parse_mal (s : ByteArray) (hs : s.size <= 140737488351232) (a b c d : Int) (i : Inf) (e : Int) (sc : ByteArray) (h0 : ¬ (bytesOf s).getD 0 0 = 255) (w : World) (hL : Lay w) :
  Calls Tryz.prog 13 #[.string s, infV a b c d i e sc] w fun en w' => en = .returned (.tuple #[.slice none 0 0, fmV F0 none 0, .int .i64 0, .int .i64 2]) /\ Lo w w' := by
 refine grp2.1 s hs a b c d i e sc w hL (fun x wx hr hl hx4 => ?_)
 by_cases h4 : s.size < 4
 ·exact grp1.1 x s hs h4 wx hr hl hx4
 ·have hbs : (bytesOf s).length = s.size := bytesOf_length s
  obtain ⟨c1, c2, c3, c4, c5, c6, c7⟩ := codes_at s (bytesOf s) rfl (by omega)
  have b0 := getD_byte (bytesOf s) (bytesOf_lt s) 0
  have b1 := getD_byte (bytesOf s) (bytesOf_lt s) 1
  exact grp1.2.1 x s hs (by omega) _ _ _ _ _ _ _ c1 c2 c3 c4 c5 c6 c7 _ rfl (fun h => by omega) wx hr hl hx4
theorem hedC_room (f : Fm) (i : Inf) : 8 * (hedC f i).length <= 1000 := by
 unfold hedC hedL
 have h0 := (clen_range f.num.toNat).2
 have h1 := sizL_len f
 have h2 := ratL_len f i
 have h3 : (fourL f i).length = 4 := rfl
 simp only [List.length_append, codeL_length, List.length_cons, List.length_nil]
 omega
theorem subsB_ok (f : Fm) (i : Inf) (P : List (List Int)) (h : okF f i P) : Bits01 (subsB f i P f.S.length) /\ (subsB f i P f.S.length).length <= 800000000000 := by
 have hall := chn_all f i P h.1 h.2.1
 rw [subsB_ch]
 refine ⟨chB_01 _ _ _ _ _, ?_⟩
 have h1 := chB_room i f.mo f.S (chnL f.mo P) f.S.length (by omega) (fun j hj => ⟨hall.2.2.2.2 h j (by omega), hall.2.2.1 j (by omega)⟩)
 have h2 : 90000000000 * f.S.length <= 90000000000 * 8 := Nat.mul_le_mul_left _ (by omega)
 omega
theorem bd_no (f : Fm) (so : OA) (sk : Nat) (a b c d : Int) (i : Inf) (e : Int) (s : ByteArray) (hr : I64 i.rate) (P : List (List Int)) (po : OA) (pk : Nat) (w : World) (hL : Lay w) (hf : FmAt w f so sk) (hP : RowsAt w po P) (h : okC f i) (h2 : (P.length : Int) = i.ch) (h3 : ∀ l ∈ P, (l.length : Int) = f.size) (h4 : ∀ l ∈ P, ∀ x ∈ l, sigE x i.wd = 0) (h5 : ¬ okF f i P) : Calls Tryz.prog 8 #[fmV f so sk, infV a b c d i e s, .slice po P.length pk] w fun en w' => en = .returned (.tuple #[.string ⟨#[]⟩, .int .i64 60]) /\ Lo w w' := by
 have hpl := hP.len
 have hwd := h.1.1.2.1
 have hp4 := hL.size4
 have K1 : Hid (∀ wx, Hid (FX w f so sk a b c d i e s wx) -> Calls Tryz.prog 10 #[fmV f so sk, infV a b c d i e s] wx fun en w' => en = .returned (.int .i64 0) /\ Hid (FX w f so sk a b c d i e s w')) := fun wx hx => (f_check f so sk a b c d i e s hr 0 (fun _ => rfl) (fun hq => absurd (h) hq) wx (hf.below hx.out.below) (hL.below hx.out.below)).mono fun en w' hh => ⟨hh.1, hx.out.next hh.2⟩
 have K2 : Hid (∀ wx, Hid (FX w f so sk a b c d i e s wx) -> Calls Tryz.prog 17 #[.slice po P.length pk, .int .i64 f.size] wx fun en w' => en = .returned (.bool true) /\ Hid (FX w f so sk a b c d i e s w')) := fun wx hx => ((f_long P po pk f.size true (tt_iff (h3)) wx (hP.below hx.out.below))).mono fun en w' hh => ⟨hh.1, by rw [hh.2]; exact hx⟩
 have K3 : Hid (∀ wx, Hid (FX w f so sk a b c d i e s wx) -> Calls Tryz.prog 18 #[.slice po P.length pk, .int .i64 i.wd] wx fun en w' => en = .returned (.bool true) /\ Hid (FX w f so sk a b c d i e s w')) := fun wx hx => ((f_withinW P po pk i.wd hwd true (tt_iff (h4)) wx (hP.below hx.out.below))).mono fun en w' hh => ⟨hh.1, by rw [hh.2]; exact hx⟩
 have hne : ((P.length : Int) != i.ch) = false := by rw [bne_eq_false_iff_eq]; exact h2
 have hall := chn_all f i P h ⟨h2, fun l hl => ⟨h3 l hl, h4 l hl⟩⟩
 have KH : Hid (∀ p wx, w.heap.size + 2 <= p -> BX w f so sk a b c d i e s p none [] wx -> Calls Tryz.prog 20 #[.pointer (some ⟨p, 0, none⟩), fmV f so sk, infV a b c d i e s] wx fun en w' => en = .returned (.tuple #[]) /\ ∃ ao', BX w f so sk a b c d i e s p ao' (sbits (hedC f i)) w') := fun p wx hp hx => (f_whead f so sk a b c d i e s h.1 p (by omega) wx hx.wr (hL.below hx.below)).mono fun en w' q => by
  obtain ⟨q1, ao', q2, q3, q4⟩ := q
  exact ⟨q1, ao', hx.put q2 q3 q4⟩
 have KCOD : Hid (∀ p ao B wx, BX w f so sk a b c d i e s p ao B wx -> Calls Tryz.prog 22 #[.int .i64 f.mo, .slice po P.length pk] wx fun en w' => ∃ ro rk, en = .returned (.slice ro (chnL f.mo P).length rk) /\ RowsP (foot p ao) w' ro (chnL f.mo P) /\ Lo wx w') := fun p ao B wx hx => by
  by_cases g0 : f.mo = 0
  ·have e : chnL f.mo P = P := by unfold chnL; rw [if_pos g0]
   rw [e, g0]
   exact (f_coded_0 P po pk wx).mono fun en w' q => ⟨po, pk, q.1, by rw [q.2]; exact hP.old hx.below (foot p ao) (fun k hk => by have := hx.foot k hk; omega), by rw [q.2]; exact Below.refl _ _⟩
  ·have hmo := h.1.2.2.2.1
   have hch2 : i.ch = 2 := by rcases hmo.2.2 with g | g; exact absurd g g0; exact g
   have hP2 : P.length = 2 := by omega
   have e0 := h3 _ (getD_mem' P 0 (by omega))
   have e1 := h3 _ (getD_mem' P 1 (by omega))
   have hsz := h.1.2.1
   have hl2 : (chnL f.mo P).length = 2 := by unfold chnL; rw [if_neg g0]; rfl
   rw [hl2]
   exact grp4.1 f.mo (by omega) P hP2 (by omega) (by omega) i.wd (by omega) h4 po pk wx (hP.below hx.below) (foot p ao) (fun k hk => hx.lt k hk)
 have KWS : Hid (∀ p ao wx ro rk, BX w f so sk a b c d i e s p ao (sbits (hedC f i)) wx -> RowsP (foot p ao) wx ro (chnL f.mo P) -> Calls Tryz.prog 21 #[.pointer (some ⟨p, 0, none⟩), fmV f so sk, infV a b c d i e s, .slice ro (chnL f.mo P).length rk] wx fun en w' => en = .returned (.int .i64 60) /\ ∃ ao' : OA, (Lo w w' /\ w'.heap[w.heap.size]? = some (.cells (fmC f so sk) 24 (0, 0)) /\ w'.heap[w.heap.size + 1]? = some (.cells (infC a b c d i e s) 26 (0, 0))) /\ ao' = ao) := fun p ao wx ro rk hx hrw => (f_wsubs f so sk a b c d i e s hwd (chnL f.mo P) hall.1 hall.2.1 hall.2.2.1 w hf.S p ao (sbits (hedC f i)) (fun k hk => by have := hx.foot k hk; omega) (sbits_01 _) (by rw [sbits_length]; exact Nat.le_trans (hedC_room f i) (by decide)) ro rk wx hx.below hx.wr hrw 60 (fun hh => absurd (hall.2.2.2.1 hh) h5) (fun _ => rfl)).mono fun en w' q => by
  obtain ⟨q1, q2, ao', q3, q4⟩ := q
  exact ⟨q1, ao, ⟨hx.below.trans (q2.below hx.below.size (fun k hk hf => by have := hx.foot _ hf; omega)), by rw [q2.block _ (lt_of_block hx.fb) (fun hf => by have := hx.foot _ hf; omega)]; exact hx.fb, by rw [q2.block _ (lt_of_block hx.ib) (fun hf => by have := hx.foot _ hf; omega)]; exact hx.ib⟩, rfl⟩
 clear h h2 h3 h4 h5 hall hwd
 have HL := kQ hL
 clear hL hf hP
 generalize chnL f.mo P = L at *
 generalize sbits (hedC f i) = HH at *
 have HA : Hid (FX w f so sk a b c d i e s ((w.alloc (.cells (fmC f so sk) 24)).alloc (.cells (infC a b c d i e s) 26))) := FX.new w f so sk a b c d i e s
 go_enter Tryz.func8, Tryz.ntmps8
 go_upto_region 1 with fail
 generalize World.alloc _ _ = wa at *
 obtain ⟨f0, f1, f2, f3, f4, f5, f6, f7, i0, i1, i2, i3, i4, i5, i6, i7, i8⟩ := HA.out.cells
 go_wp2_with fail
 refine (K1.out _ HA).mono ?_
 rintro en w1 ⟨rfl, HB1⟩
 clear HA f0 f1 f2 f3 f4 f5 f6 f7 i0 i1 i2 i3 i4 i5 i6 i7 i8
 obtain ⟨f0, f1, f2, f3, f4, f5, f6, f7, i0, i1, i2, i3, i4, i5, i6, i7, i8⟩ := HB1.out.cells
 go_wp2_with fail
 refine (K2.out _ HB1).mono ?_
 rintro en w2 ⟨rfl, HB2⟩
 clear HB1 f0 f1 f2 f3 f4 f5 f6 f7 i0 i1 i2 i3 i4 i5 i6 i7 i8
 obtain ⟨f0, f1, f2, f3, f4, f5, f6, f7, i0, i1, i2, i3, i4, i5, i6, i7, i8⟩ := HB2.out.cells
 go_wp2_with fail
 refine (K3.out _ HB2).mono ?_
 rintro en w3 ⟨rfl, HB3⟩
 clear HB2 f0 f1 f2 f3 f4 f5 f6 f7 i0 i1 i2 i3 i4 i5 i6 i7 i8
 obtain ⟨f0, f1, f2, f3, f4, f5, f6, f7, i0, i1, i2, i3, i4, i5, i6, i7, i8⟩ := HB3.out.cells
 go_wp2_with fail
 have kn := new_spec w3
 refine kn.mono ?_
 rintro en w4 ⟨rfl, hw4, hq4⟩
 have HX4 : Hid (BX w f so sk a b c d i e s w3.heap.size none [] w4) := by
  have hb : Lo w3 w4 := by rw [hq4]; exact aQ
  have g := HB3.out.next hb
  exact ⟨g.fb, g.ib, g.below, hw4, by have := lt_of_block HB3.out.ib; omega, fun k hk => by cases hk⟩
 have hp2 : w.heap.size + 2 <= w3.heap.size := by have := lt_of_block HB3.out.ib; omega
 clear kn hw4 hq4 HB3
 clear f0 f1 f2 f3 f4 f5 f6 f7 i0 i1 i2 i3 i4 i5 i6 i7 i8
 generalize w3.heap.size = p at *
 obtain ⟨f0, f1, f2, f3, f4, f5, f6, f7, i0, i1, i2, i3, i4, i5, i6, i7, i8⟩ := HX4.out.cells
 go_wp2_with fail
 refine (KH.out p _ hp2 HX4.out).mono ?_
 rintro en w5 ⟨rfl, ao5, hx5⟩
 have HX5 := kQ hx5
 have HD : Hid (BX w f so sk a b c d i e s p ao5 HH w5.drew) := hx5.low dQ
 clear hx5 KH HX4
 clear f0 f1 f2 f3 f4 f5 f6 f7 i0 i1 i2 i3 i4 i5 i6 i7 i8
 go_wp2_with fail
 refine wp_region_held_drew (S := fun wx => wx.heap[w.heap.size]? = some (.cells (fmC f so sk) 24 (0, 0)) /\ wx.heap[w.heap.size + 1]? = some (.cells (infC a b c d i e s) 26 (0, 0))) (by kernel_rfl) ⟨HD.out.fb, HD.out.ib⟩ (fun hS => ?_)
 refine vQ 0 (.pointer (some ⟨p, 0, none⟩)) hS ?_
 simp only [SL]
 refine uQ 1 (fmV f so sk) rfl hS (Or.inl ⟨by rfl, fun w hSw => by obtain ⟨f0, f1, f2, f3, f4, f5, f6, f7⟩ := fm_cells hSw.1; obtain ⟨i0, i1, i2, i3, i4, i5, i6, i7, i8⟩ := inf_cells hSw.2; go_simp⟩) ?_
 simp only [SL]
 refine uQ 2 (infV a b c d i e s) rfl hS (Or.inl ⟨by rfl, fun w hSw => by obtain ⟨f0, f1, f2, f3, f4, f5, f6, f7⟩ := fm_cells hSw.1; obtain ⟨i0, i1, i2, i3, i4, i5, i6, i7, i8⟩ := inf_cells hSw.2; go_simp⟩) ?_
 simp only [SL]
 refine vQ 3 (.pointer (some ⟨w.heap.size, 6, none⟩)) hS ?_
 simp only [SL]
 refine uQ 4 (.int .i64 f.mo) rfl hS (Or.inl ⟨by rfl, fun w hSw => by obtain ⟨f0, f1, f2, f3, f4, f5, f6, f7⟩ := fm_cells hSw.1; obtain ⟨i0, i1, i2, i3, i4, i5, i6, i7, i8⟩ := inf_cells hSw.2; go_simp⟩) ?_
 simp only [SL]
 refine vQ 5 (.slice po P.length pk) hS ?_
 simp only [SL]
 refine wpAnyH_ready (rs := [6]) (by kernel_rfl) (by simp) ?_
 refine AllReadyH.cons rfl (fun K hK => ?_) AllReadyH.nil
 go_simp
 refine (KCOD.out p ao5 HH _ HD.out).mono ?_
 rintro en w6 ⟨ro, rk, rfl, hr6, hb6⟩
 have HX6 := kQ (HD.out.low hb6)
 have HR6 := kQ hr6
 clear hr6 hb6 KCOD
 refine hK.out _ _ ⟨HX6.out.fb, HX6.out.ib⟩ (fun hS6 => ?_)
 clear hK K
 try simp only [SL]
 refine wpAnyH_ready (rs := [7]) (by kernel_rfl) (by simp) ?_
 refine AllReadyH.cons rfl (fun K hK => ?_) AllReadyH.nil
 go_simp
 refine (KWS.out p ao5 _ ro rk HX6.out HR6.out).mono ?_
 rintro en w7 ⟨rfl, ao7, hx7, hao7⟩
 have HX7 := kQ hx7.1
 have hs77 := hx7.2
 clear hx7 hao7 KWS HR6 HX6 HX5 HD
 refine hK.out _ _ hs77 (fun hS7 => ?_)
 clear hK K
 try simp only [SL]
 refine vQ 8 (.int .i64 60) hS7 ?_
 simp only [SL]
 refine wpAnyH_done (by kernel_rfl) ?_ _
 go_wp2_with fail
 go_ret2
 exact ⟨rfl, HX7.out⟩
end Go.Proofs.YtfpfabmbipmipaaGreatDoor
