/- Own text. -/
import Derived.WalkMore
import Derived.Test.YtfpfabmbipmipaaGreatDoorD41
import Derived.Test.YtfpfabmbipmipaaGreatDoorD37
set_option linter.unusedSimpArgs false
set_option linter.unusedVariables false
set_option maxRecDepth 20000
set_option maxHeartbeats 12800000
namespace Go.Proofs.YtfpfabmbipmipaaGreatDoor
open Go.RowKit
structure PX (w : World) (a b c d : Int) (i : Inf) (e : Int) (sc : ByteArray) (x : Nat) (wx : World) : Prop where
 ib : wx.heap[w.heap.size]? = some (.cells (infC a b c d i e sc) 26 (0, 0))
 zb : wx.heap[w.heap.size + 1]? = some (.cells (fmC F0 none 0) 24 (0, 0))
 below : Lo w wx
 hx : w.heap.size + 2 <= x
section
variable {w wx w' : World} {a b c d : Int} {i : Inf} {e : Int} {sc : ByteArray} {x q : Nat}
theorem PX.low (h : PX w a b c d i e sc x wx) (hb : Lo wx w') : PX w a b c d i e sc x w' :=
 ⟨by rw [hb.block _ (lt_of_block h.ib)]; exact h.ib, by rw [hb.block _ (lt_of_block h.zb)]; exact h.zb, h.below.trans (hb.mono h.below.size), h.hx⟩
theorem PX.two (h : PX w a b c d i e sc x wx) (hq : w.heap.size + 2 <= q) (hs : Stays (Go.Proofs.YtfpfabmbipmipaaGreatDoor.two x q) wx w') : PX w a b c d i e sc x w' := by
 have hx := h.hx
 refine ⟨?_, ?_, h.below.trans (hs.below h.below.size (fun k hk hf => ?_)), h.hx⟩
 ·rw [hs.block _ (lt_of_block h.ib) (fun hf => by rcases hf with e | e <;> omega)]; exact h.ib
 ·rw [hs.block _ (lt_of_block h.zb) (fun hf => by rcases hf with e | e <;> omega)]; exact h.zb
 ·rcases hf with e | e <;> omega
theorem PX.only (h : PX w a b c d i e sc x wx) (hs : Stays (Go.Proofs.YtfpfabmbipmipaaGreatDoor.only x) wx w') : PX w a b c d i e sc x w' :=
 h.two h.hx (hs.mono (fun k _ hk => Or.inl hk))
end
theorem results_four {fn : Func} {a p b c : Tmp} {ty : TypeId} (h : fn.results = #[.tmp a, .cell p ty, .tmp b, .tmp c]) (tmps : Array Value) (P : Program) (w : World) :
  (results fn tmps).run P w = ((asAddr (tmps.getD p undef)).run P w).andThen fun ad w₁ => ((loadVar ty ad).run P w₁).andThen fun v w₂ => .ok (.tuple #[tmps.getD a undef, v, tmps.getD b undef, tmps.getD c undef]) w₂ := by
 simp only [results, h]
 simp [Sem.run_bind, Result.andThen]
theorem ps_head (s : ByteArray) (hs : s.size <= 140737488351232) (a b c d : Int) (i : Inf) (e : Int) (sc : ByteArray) (w : World) (hL : Lay w) (KH : Hid (∀ x wx, Rd wx x s 0 -> Lay wx -> 4 <= x -> Calls Tryz.prog 43 #[.pointer (some ⟨x, 0, none⟩), .string s] wx fun en w' => en = .returned (.tuple #[.agg (hdC H0), .bool false]) /\ Stays (only x) wx w')) : Calls Tryz.prog 13 #[.string s, infV a b c d i e sc] w fun en w' => en = .returned (.tuple #[.slice none 0 0, fmV F0 none 0, .int .i64 0, .int .i64 2]) /\ Lo w w' := by
 have HP0 : Hid (PX w a b c d i e sc (w.heap.size + 2) ((w.alloc (.cells (infC a b c d i e sc) 26)).alloc (.cells (fmC F0 none 0) 24))) := by
  refine ⟨heap_two _ _ _, ?_, aQ.alloc (by simp) _, Nat.le_refl _⟩
  have hh := heap_alloc_new (w.alloc (.cells (infC a b c d i e sc) 26)) (.cells (fmC F0 none 0) 24);rw [show (w.alloc (.cells (infC a b c d i e sc) 26)).heap.size = w.heap.size + 1 from by simp] at hh
  exact hh
 have HSZ : Hid (((w.alloc (.cells (infC a b c d i e sc) 26)).alloc (.cells (fmC F0 none 0) 24)).heap.size = w.heap.size + 2) := by show _ = _; simp
 have HL := kQ hL
 have hp4 := hL.size4
 clear hL
 go_enter Tryz.func13, Tryz.ntmps13
 go_upto_region 1 with fail
 generalize World.alloc _ _ = wa at *
 have ko := of_spec s (by omega) wa
 go_wp2_with fail
 refine ko.mono ?_
 rintro en w1 ⟨rfl, hr1, hb1⟩
 rw [HSZ.out] at hr1
 rw [HSZ.out]
 have HR1 := kQ hr1
 have HP1 := kQ (HP0.out.low hb1)
 clear ko hr1 hb1 HP0 HSZ
 generalize hxx : w.heap.size + 2 = x at *
 have hx4 : 4 <= x := by omega
 have hxw : w.heap.size < x := by omega
 clear hxx
 go_wp2_with fail
 refine (KH.out x w1 HR1.out (HL.out.below HP1.out.below) hx4).mono ?_
 rintro en w2 ⟨rfl, hs2⟩
 have HP2 : Hid (PX w a b c d i e sc x (w2.alloc (.cells (hdC H0) 78))) := (HP1.out.only hs2).low aQ
 clear hs2 HP1 HR1 KH
 go_upto_region 3 with fail
 generalize World.alloc _ _ = w3 at *
 obtain ⟨k0, k1, k2, k3, k4, k5, k6, k7⟩ := fm_cells HP2.out.zb
 have r0 := row_frozen HP2.out.zb 0
 have r1 := row_frozen HP2.out.zb 1
 have r2 := row_frozen HP2.out.zb 2
 have r3 := row_frozen HP2.out.zb 3
 have r4 := row_frozen HP2.out.zb 4
 have r5 := row_frozen HP2.out.zb 5
 have r6 := row_frozen HP2.out.zb 6
 have r7 := row_frozen HP2.out.zb 7
 go_wp2_with fail
 generalize hwf : World.setCell _ _ _ = wf
 have hH : wf.heap[w.heap.size + 1]? = some (.cells (fmC F0 none 0) 24 (0, 0)) := by rw [<- hwf]; exact set8_a _ _ _ _ _ _ _ _ _ HP2.out.zb
 have hS : Lo w wf := by rw [<- hwf]; exact set8_b _ _ _ _ _ _ _ _ _ _ (by omega) HP2.out.below
 refine bodyPost_ret (v := .tuple #[.slice none 0 0, .agg (fmC F0 none 0), .int .i64 0, .int .i64 2]) ?_ rfl ⟨rfl, hS⟩
 rw [results_four rfl]
 have hld := run_loadVar_row (P := Tryz.prog) (wf) (w.heap.size + 1) 24 24 (fmC F0 none 0) (0, 0) _ hH Tryz.underlying24 rfl info_Frame
 simp [asAddr, Result.andThen, hld]
theorem drew_heap (w : World) : w.drew.heap = w.heap := rfl
theorem fmw_cells {w : World} {g : Nat} {f : Fm} {v : Value} (h : w.heap[g]? = some (.cells (fmW f v) 24 (0, 0))) :
  w.cell? ⟨g, 0, none⟩ = some (.bool f.v) /\ w.cell? ⟨g, 1, none⟩ = some (.int .i64 f.num) /\ w.cell? ⟨g, 2, none⟩ = some (.int .i64 f.size) /\ w.cell? ⟨g, 3, none⟩ = some (.int .i64 f.sc) /\ w.cell? ⟨g, 4, none⟩ = some (.int .i64 f.rc) /\ w.cell? ⟨g, 5, none⟩ = some (.int .i64 f.wc) /\ w.cell? ⟨g, 6, none⟩ = some (.int .i64 f.mo) /\ w.cell? ⟨g, 7, none⟩ = some v := by
 refine ⟨?_, ?_, ?_, ?_, ?_, ?_, ?_, ?_⟩ <;> (rw [cell_of_row _ _ _ _ _ _ h]; rfl)
theorem RowsP.keep {F : Nat -> Prop} {w W : World} {po : OA} {P : List (List Int)} (h : RowsP F w po P) (hW : ∀ k, ¬ F k -> k < w.heap.size -> W.heap[k]? = w.heap[k]?) : RowsP F W po P := by
 refine ⟨h.len, fun h0 => ?_⟩
 obtain ⟨b, off, e, hb, hc⟩ := h.lies h0
 refine ⟨b, off, e, hb, fun c hl => ?_⟩
 obtain ⟨a, k, h1, h2, h3, h4, h5⟩ := hc c hl
 exact ⟨a, k, by rw [World.cell?_of_block (w := w) (hW b hb (lt_cell h1))]; exact h1, h2, h3, ints_keep h4 (fun h0 b' hb' hl' => hW b' (h5 h0 b' hb') hl'), h5⟩
section
variable {w wx W : World} {x q : Nat} {s : ByteArray} {f : Fm} {a b c d : Int} {i : Inf} {e : Int} {sc : ByteArray} {L : List (List Int)} {S : List Sb} {vL vS vB : Value} {cX cY : List Value} {at_ : Nat}
theorem RS.rowsP (h : RS w x q s f a b c d i e sc L S vL vS vB cX cY at_ wx) (hl : L.length <= 8) (F : Nat -> Prop) (hF : ∀ k, F k -> k <= w.heap.size) : ∃ lo lk, vL = .slice lo L.length lk /\ RowsP F wx lo L := by
 have ho := h.oX
 rcases ho.2 with ⟨h1, h2⟩ | ⟨g, cap, cur, h1, h2, h3, h4, h5, h6, h7⟩
 ·exact ⟨none, 0, by rw [h1, h2], ⟨by omega, fun h0 => by omega⟩⟩
 ·refine ⟨_, cap, h1, ⟨by omega, fun h0 => ⟨g, 0, rfl, fun hf => by have := hF g hf; omega, fun n hn => ?_⟩⟩⟩
  obtain ⟨a, k, k1, k2, k3, k4⟩ := h.dX n hn;refine ⟨a, k, ?_, k2.1, k2.2, k3, fun h0 b' hb' hf => by have := hF b' hf; have := (k4 h0 b' hb').1; omega⟩
  rw [Nat.zero_add, cell_of_row _ _ _ _ _ _ h3, <- Array.getElem?_toList];rw [<- h7, List.getElem?_take] at k1
  split at k1
  ·exact k1
  ·cases k1
theorem RS.subsW (h : RS w x q s f a b c d i e sc L S vL vS vB cX cY at_ wx) (hl : S.length <= 8) (hW : ∀ k, w.heap.size < k -> k < wx.heap.size -> W.heap[k]? = wx.heap[k]?) : ∃ so sk, vS = .slice so S.length sk /\ SubsAt W so S /\ (S.length <= sk /\ (so = none -> sk = 0)) := by
 have ho := h.oY
 rcases ho.2 with ⟨h1, h2⟩ | ⟨g, cap, cur, h1, h2, h3, h4, h5, h6, h7⟩
 ·exact ⟨none, 0, by rw [h1, h2], ⟨by omega, fun h0 => by omega⟩, by omega, fun _ => rfl⟩
 ·have h3W : W.heap[g]? = some (.cells cur 67 (0, 0)) := by rw [hW g (by omega) (lt_of_block h3)]; exact h3
  refine ⟨_, cap, h1, ⟨by omega, fun h0 => ⟨g, 0, rfl, fun n hn => ?_⟩⟩, h4, fun e => by cases e⟩
  obtain ⟨ca, cc, pa, pc, ea, ec, k1, k2, k3, k4, k5, k6⟩ := h.dY n hn;have off : ∀ {ao : OA} {l : List Int}, Off w vL vS ao l -> IntsAt wx ao l -> IntsAt W ao l := fun {ao l} hf hi => ints_keep hi (fun h0 k hk hl => hW k (hf h0 k hk).1 hl);refine ⟨ca, cc, pa, pc, ea, ec, ?_, sb_keep k2 (off k4 k2.C) (off k5 k2.R.P) (off k6 k2.R.E), k3⟩
  have cel : ∀ j u, (subC (S.getD n Sb0) ca cc pa pc ea ec).toList[j]? = some u -> W.cell? ⟨g, 0 + n * 10 + j, none⟩ = some u := fun j u hu => by
   have k := k1 j u hu;rw [<- h7, List.getElem?_take] at k
   split at k
   ·rw [Nat.zero_add, cell_of_row _ _ _ _ _ _ h3W, <- Array.getElem?_toList]; exact k
   ·cases k
  exact ⟨cel 0 _ rfl, cel 1 _ rfl, cel 2 _ rfl, cel 3 _ rfl, cel 4 _ rfl, cel 5 _ rfl, cel 6 _ rfl, cel 7 _ rfl, cel 8 _ rfl, cel 9 _ rfl⟩
end
theorem szb_ext (n : Nat) : szb (n : Int) = ((extN n : Nat) : Int) /\ extN n <= 2 := by
 unfold szb extN
 by_cases a : n = 6
 ·rw [if_pos (by omega), if_pos a]; exact ⟨rfl, by decide⟩
 ·by_cases b : n = 7
  ·rw [if_neg (by omega), if_pos (by omega), if_neg a, if_pos b]; exact ⟨rfl, by decide⟩
  ·rw [if_neg (by omega), if_neg (by omega), if_neg a, if_neg b]; exact ⟨rfl, by decide⟩
theorem rtb_rw (n : Nat) : rtb (n : Int) = ((rwN n : Nat) : Int) /\ rwN n <= 2 := by
 unfold rtb rwN
 by_cases a : n = 12
 ·rw [if_pos (by omega), if_pos a]; exact ⟨rfl, by decide⟩
 ·by_cases b : n = 13
  ·rw [if_neg (by omega), if_pos (by omega), if_neg a, if_pos b]; exact ⟨rfl, by decide⟩
  ·by_cases c : n = 14
   ·rw [if_neg (by omega), if_neg (by omega), if_pos (by omega), if_neg a, if_neg b, if_pos c]; exact ⟨rfl, by decide⟩
   ·rw [if_neg (by omega), if_neg (by omega), if_neg (by omega), if_neg a, if_neg b, if_neg c]; exact ⟨rfl, by decide⟩
def hdB (s : ByteArray) (B : List Nat) (num k : Nat) : Hd := ⟨((B.getD 1 0 % 2 : Nat) : Int) == 1, ((B.getD 2 0 / 16 : Nat) : Int), ((B.getD 2 0 % 16 : Nat) : Int), ((B.getD 3 0 / 16 : Nat) : Int), ((B.getD 3 0 % 16 / 2 : Nat) : Int), (num : Int), (bitsAt s (32 + 8 * k) (8 * extN (B.getD 2 0 / 16)) : Int), (bitsAt s (32 + 8 * k + 8 * extN (B.getD 2 0 / 16)) (8 * rwN (B.getD 2 0 % 16)) : Int)⟩
theorem mark_iff (B : List Nat) (hB : ∀ b ∈ B, b < 256) (h4 : 4 <= B.length) : (B.getD 0 0 * 128 + B.getD 1 0 / 2 = 32764 /\ B.getD 3 0 % 2 = 0) ↔ hdOk4 B := by
 have b0 := getD_byte B hB 0
 have b1 := getD_byte B hB 1
 constructor
 ·intro h; exact ⟨h4, by omega, by omega, h.2⟩
 ·intro h; have h1 := h.2.1; have h2 := h.2.2.1; exact ⟨by omega, h.2.2.2⟩
theorem kh_ok (s : ByteArray) (hs : s.size <= 140737488351232) (B : List Nat) (hBs : bytesOf s = B) (num k : Nat) (h4 : hdOk4 B) (hu : uncode (B.drop 4) = (num, k, 0)) (hlen : 4 + k + extN (B.getD 2 0 / 16) + rwN (B.getD 2 0 % 16) + 1 <= B.length) (hcrc : B.getD (4 + k + extN (B.getD 2 0 / 16) + rwN (B.getD 2 0 % 16)) 0 = crc8N (B.take (4 + k + extN (B.getD 2 0 / 16) + rwN (B.getD 2 0 % 16)))) :
  ∀ x wx, Rd wx x s 0 -> Lay wx -> 4 <= x -> Calls Tryz.prog 43 #[.pointer (some ⟨x, 0, none⟩), .string s] wx fun en w' => en = .returned (.tuple #[.agg (hdC (hdB s B num k)), .bool true]) /\ Rd w' x s (8 * (4 + k + extN (B.getD 2 0 / 16) + rwN (B.getD 2 0 % 16) + 1)) /\ Stays (only x) wx w' := fun x wx hr hL hx4 => by
 have hB : ∀ b ∈ B, b < 256 := by rw [<- hBs]; exact bytesOf_lt s
 have hbl : B.length = s.size := by rw [<- hBs]; exact bytesOf_length s
 obtain ⟨c1, c2, c3, c4, c5, c6, c7⟩ := codes_at s B hBs h4.1
 have hz := szb_ext (B.getD 2 0 / 16)
 have hrw := rtb_rw (B.getD 2 0 % 16)
 have hsum := byte_at8 s B hBs (4 + k + extN (B.getD 2 0 / 16) + rwN (B.getD 2 0 % 16)) (by omega)
 have hk := grp1.2.2.2.2.2 x s hs (by have := h4.1; omega) _ _ _ _ _ _ _ c1 c2 c3 c4 c5 c6 c7 (((B.getD 1 0 % 2 : Nat) : Int) == 1) rfl ((mark_iff B hB h4.1).2 h4) num k (by rw [hBs]; exact hu) (extN (B.getD 2 0 / 16)) (rwN (B.getD 2 0 % 16)) hz.1 hrw.1 hz.2 hrw.2 (by omega) (by rw [hsum, hBs]; exact hcrc) wx hr hL hx4
 refine hk.mono fun en w' q => ⟨q.1, ?_, q.2.2⟩
 have g := q.2.1
 rw [show 32 + 8 * k + 8 * extN (B.getD 2 0 / 16) + 8 * rwN (B.getD 2 0 % 16) + 8 = 8 * (4 + k + extN (B.getD 2 0 / 16) + rwN (B.getD 2 0 % 16) + 1) by omega] at g
 exact g
theorem hdB_rng (s : ByteArray) (B : List Nat) (hBs : bytesOf s = B) (num k : Nat) : (0 <= (hdB s B num k).sc /\ (hdB s B num k).sc < 16) /\ (0 <= (hdB s B num k).rc /\ (hdB s B num k).rc < 16) /\ (0 <= (hdB s B num k).cc /\ (hdB s B num k).cc < 16) /\ (0 <= (hdB s B num k).wc /\ (hdB s B num k).wc < 8) /\ (0 <= (hdB s B num k).sz /\ (hdB s B num k).sz <= 65535) /\ (0 <= (hdB s B num k).rt /\ (hdB s B num k).rt <= 65535) := by
 have hB : ∀ b ∈ B, b < 256 := by rw [<- hBs]; exact bytesOf_lt s
 have b2 := getD_byte B hB 2
 have b3 := getD_byte B hB 3
 have h1 := bitsAt_lt s (32 + 8 * k) (8 * extN (B.getD 2 0 / 16))
 have h2 := bitsAt_lt s (32 + 8 * k + 8 * extN (B.getD 2 0 / 16)) (8 * rwN (B.getD 2 0 % 16))
 have e1 := (szb_ext (B.getD 2 0 / 16)).2
 have e2 := (rtb_rw (B.getD 2 0 % 16)).2
 have p1 : 2 ^ (8 * extN (B.getD 2 0 / 16)) <= 2 ^ 16 := Nat.pow_le_pow_right (by decide) (by omega)
 have p2 : 2 ^ (8 * rwN (B.getD 2 0 % 16)) <= 2 ^ 16 := Nat.pow_le_pow_right (by decide) (by omega)
 have e16 : (2 : Nat) ^ 16 = 65536 := by decide
 unfold hdB
 refine ⟨?_, ?_, ?_, ?_, ?_, ?_⟩ <;> simp only <;> omega
theorem fr_ok (h : Hd) (a b c d : Int) (i : Inf) (e : Int) (s : ByteArray) (hh : (0 <= h.sc /\ h.sc < 16) /\ (0 <= h.rc /\ h.rc < 16) /\ (0 <= h.cc /\ h.cc < 16) /\ (0 <= h.wc /\ h.wc < 8) /\ (0 <= h.sz /\ h.sz <= 65535) /\ (0 <= h.rt /\ h.rt <= 65535)) (hbig : sizS h.sc h.sz <= 4608) (h1 : (if h.cc < 8 then h.cc + 1 else 2) = i.ch) (h2 : ratS h.rc h.rt i.rate = i.rate) (h3 : widS h.wc i.wd = i.wd) (h4 : (mayF i /\ (1 <= (sizS h.sc h.sz) /\ (sizS h.sc h.sz) <= 4608) /\ (0 <= h.num /\ h.num <= (if h.v then 68719476735 else 2147483647)) /\ (0 <= (if h.cc < 8 then 0 else h.cc - 7) /\ (if h.cc < 8 then 0 else h.cc - 7) <= 3 /\ ((if h.cc < 8 then 0 else h.cc - 7) = 0 ∨ i.ch = 2)))) (w : World) (hL : Lay w) : Calls Tryz.prog 44 #[.agg (hdC h), infV a b c d i e s] w fun en w' => en = .returned (.tuple #[fmV ⟨h.v, h.num, sizS h.sc h.sz, h.sc, h.rc, h.wc, (if h.cc < 8 then 0 else h.cc - 7), []⟩ none 0, .int .i64 0]) /\ Lo w w' := by
 have KF : Hid (∀ wx, G1 35 #[fmV ⟨h.v, h.num, sizS h.sc h.sz, h.sc, h.rc, h.wc, (if h.cc < 8 then 0 else h.cc - 7), []⟩ none 0, infV a b c d i e s] wx (.bool true)) := fun wx => f_fits ⟨h.v, h.num, sizS h.sc h.sz, h.sc, h.rc, h.wc, (if h.cc < 8 then 0 else h.cc - 7), []⟩ none 0 a b c d i e s true (tt_iff (h4)) wx
 clear h4
 have b1 : ((if h.cc < 8 then h.cc + 1 else 2) == i.ch) = true := by rw [beq_iff_eq]; exact h1
 clear h1
 have b2 : (ratS h.rc h.rt i.rate == i.rate) = true := by rw [beq_iff_eq]; exact h2
 clear h2
 have b3 : (widS h.wc i.wd == i.wd) = true := by rw [beq_iff_eq]; exact h3
 clear h3
 obtain ⟨hsc, hrc, hcc, hwc, hsz, hrt⟩ := hh
 have kch := f_chS h.cc hcc
 have hsr : 0 <= sizS h.sc h.sz /\ sizS h.sc h.sz <= 70000 := sizS_rng h.sc h.sz hsc hsz
 have KZ : Hid (∀ wx, Lay wx -> G0 99 #[.int .i64 h.sc, .int .i64 h.sz] wx (.int .i64 (sizS h.sc h.sz))) := fun wx hl => f_sizS h.sc h.sz hsc (by omega) wx hl
 have KR : Hid (∀ wx, Lay wx -> G0 100 #[.int .i64 h.rc, .int .i64 h.rt, .int .i64 i.rate] wx (.int .i64 (ratS h.rc h.rt i.rate))) := fun wx hl => f_ratS h.rc h.rt i.rate hrc (by omega) (by rcases rtb_all h.rc with ⟨_, _, u⟩ | ⟨_, _, u⟩ | ⟨_, _, u⟩ | ⟨_, _, _, _, u⟩ <;> (rw [u]; omega)) wx hl
 have KW : Hid (∀ wx, Lay wx -> G0 101 #[.int .i64 h.wc, .int .i64 i.wd] wx (.int .i64 (widS h.wc i.wd))) := fun wx hl => f_widS h.wc i.wd hwc wx hl
 have HLA : Hid (Lay (((w.alloc (.cells (hdC h) 78)).alloc (.cells (infC a b c d i e s) 26)).alloc (.cells (fmC F0 none 0) 24))) := hL.below ((aQ.alloc (by simp) _).alloc (by simp; omega) _)
 have HB0 : Hid (Lo w (((w.alloc (.cells (hdC h) 78)).alloc (.cells (infC a b c d i e s) 26)).alloc (.cells (fmC F0 none 0) 24))) := (aQ.alloc (by simp) _).alloc (by simp; omega) _
 have HH0 : Hid ((((w.alloc (.cells (hdC h) 78)).alloc (.cells (infC a b c d i e s) 26)).alloc (.cells (fmC F0 none 0) 24)).heap[w.heap.size]? = some (.cells (hdC h) 78 (0, 0))) := S3.at_new1 w _ _ _
 have HI0 : Hid ((((w.alloc (.cells (hdC h) 78)).alloc (.cells (infC a b c d i e s) 26)).alloc (.cells (fmC F0 none 0) 24)).heap[w.heap.size + 1]? = some (.cells (infC a b c d i e s) 26 (0, 0))) := S3.at_new2 w _ _ _
 have HZ0 : Hid ((((w.alloc (.cells (hdC h) 78)).alloc (.cells (infC a b c d i e s) 26)).alloc (.cells (fmC F0 none 0) 24)).heap[w.heap.size + 2]? = some (.cells (fmC F0 none 0) 24 (0, 0))) := S3.at_new3 w _ _ _
 have HSZ : Hid ((((w.alloc (.cells (hdC h) 78)).alloc (.cells (infC a b c d i e s) 26)).alloc (.cells (fmC F0 none 0) 24)).heap.size = w.heap.size + 3) := by show _ = _; simp
 clear hL hsc hrc hcc hwc
 generalize sizS h.sc h.sz = size at *
 generalize ratS h.rc h.rt i.rate = rr at *
 generalize widS h.wc i.wd = ww at *
 generalize (if h.cc < 8 then h.cc + 1 else 2) = nch at *
 generalize (if h.cc < 8 then 0 else h.cc - 7) = mo at *
 go_enter Tryz.func44, Tryz.ntmps44
 go_upto_region 1 with fail
 generalize World.alloc _ _ = wa at *
 obtain ⟨z0, z1, z2, z3, z4, z5, z6, z7⟩ := hd_cells HH0.out
 go_wp2_with fail
 refine (kch _).mono ?_
 rintro en w1 ⟨rfl, hw1⟩
 subst hw1
 clear kch
 go_wp2_with fail
 have HLD : Hid (Lay w1.drew) := HLA.out.below dQ
 go_region_held3 (fun wx => wx.cell? ⟨w.heap.size, 0, none⟩ = some (.bool h.v) /\ wx.cell? ⟨w.heap.size, 1, none⟩ = some (.int .i64 h.sc) /\ wx.cell? ⟨w.heap.size, 2, none⟩ = some (.int .i64 h.rc) /\ wx.cell? ⟨w.heap.size, 3, none⟩ = some (.int .i64 h.cc) /\ wx.cell? ⟨w.heap.size, 4, none⟩ = some (.int .i64 h.wc) /\ wx.cell? ⟨w.heap.size, 5, none⟩ = some (.int .i64 h.num) /\ wx.cell? ⟨w.heap.size, 6, none⟩ = some (.int .i64 h.sz) /\ wx.cell? ⟨w.heap.size, 7, none⟩ = some (.int .i64 h.rt)) (go_keep)
  ((go_at_call 99; refine (KZ.out _ (by first | exact HLD.out | exact HLD.out.below aQ)).mono ?_; rintro e w4 ⟨rfl, hw4⟩; subst hw4))
 all_goals (
  have HG : Hid (GX w h a b c d i e s w1.heap.size ⟨h.v, h.num, size, h.sc, h.rc, h.wc, mo, []⟩ ((w1.alloc (.cells (fmC ⟨h.v, h.num, size, h.sc, h.rc, h.wc, mo, []⟩ none 0) 24)).drew)) := by
   have hb : Lo w1 ((w1.alloc (.cells (fmC ⟨h.v, h.num, size, h.sc, h.rc, h.wc, mo, []⟩ none 0) 24)).drew) := aQ.drew;refine ⟨?_, ?_, ?_, ?_, HB0.out.trans (hb.mono HB0.out.size), by have := HSZ.out; omega⟩
   ·rw [hb.block _ (lt_of_block HH0.out)]; exact HH0.out
   ·rw [hb.block _ (lt_of_block HI0.out)]; exact HI0.out
   ·rw [hb.block _ (lt_of_block HZ0.out)]; exact HZ0.out
   ·exact heap_alloc_new _ _
  have HL5 : Hid (Lay ((w1.alloc (.cells (fmC ⟨h.v, h.num, size, h.sc, h.rc, h.wc, mo, []⟩ none 0) 24)).drew)) := HLA.out.below (aQ.drew);clear HLD HB0 HH0 HI0 HZ0 HLA KZ HSZ
  try clear hHeld
  generalize World.drew (World.alloc _ _) = w5 at *;generalize w1.heap.size = q at *;obtain ⟨f0, f1, f2, f3, f4, f5, f6, f7⟩ := fm_cells HG.out.fb;obtain ⟨k0, k1, k2, k3, k4, k5, k6, k7⟩ := fm_cells HG.out.zb;have r0 := row_frozen HG.out.zb 0;have r1 := row_frozen HG.out.zb 1;have r2 := row_frozen HG.out.zb 2;have r3 := row_frozen HG.out.zb 3;have r4 := row_frozen HG.out.zb 4;have r5 := row_frozen HG.out.zb 5;have r6 := row_frozen HG.out.zb 6;have r7 := row_frozen HG.out.zb 7;obtain ⟨z0, z1, z2, z3, z4, z5, z6, z7⟩ := hd_cells HG.out.hb;obtain ⟨i0, i1, i2, i3, i4, i5, i6, i7, i8⟩ := inf_cells HG.out.ib
  go_wp2_with fail
  go_quiet (first | (go_at_call 100; exact Calls.quiet_of_same (KR.out _ (HL5.out.drewN _))) | (go_at_call 101; exact Calls.quiet_of_same (KW.out _ (HL5.out.drewN _))))
  have HG6 : Hid (GX w h a b c d i e s q ⟨h.v, h.num, size, h.sc, h.rc, h.wc, mo, []⟩ (w5.drewN nq)) := ⟨HG.out.hb, HG.out.ib, HG.out.zb, HG.out.fb, HG.out.below.trans ((below_drewN _ _).mono HG.out.below.size), HG.out.hq⟩
  go_wp2_with fail
  refine (KF.out _).mono ?_;rintro en w8 ⟨rfl, hb8⟩
  have HG8 : Hid (GX w h a b c d i e s q ⟨h.v, h.num, size, h.sc, h.rc, h.wc, mo, []⟩ w8) := by
   have g := HG6.out;refine ⟨?_, ?_, ?_, ?_, g.below.trans (hb8.mono g.below.size), g.hq⟩
   ·rw [hb8.block _ (lt_of_block g.hb)]; exact g.hb
   ·rw [hb8.block _ (lt_of_block g.ib)]; exact g.ib
   ·rw [hb8.block _ (lt_of_block g.zb)]; exact g.zb
   ·rw [hb8.block _ (lt_of_block g.fb)]; exact g.fb
  clear hb8 HG HG6 f0 f1 f2 f3 f4 f5 f6 f7 k0 k1 k2 k3 k4 k5 k6 k7 r0 r1 r2 r3 r4 r5 r6 r7 z0 z1 z2 z3 z4 z5 z6 z7 i0 i1 i2 i3 i4 i5 i6 i7 i8;obtain ⟨f0, f1, f2, f3, f4, f5, f6, f7⟩ := fm_cells HG8.out.fb;obtain ⟨k0, k1, k2, k3, k4, k5, k6, k7⟩ := fm_cells HG8.out.zb;have r0 := row_frozen HG8.out.zb 0;have r1 := row_frozen HG8.out.zb 1;have r2 := row_frozen HG8.out.zb 2;have r3 := row_frozen HG8.out.zb 3;have r4 := row_frozen HG8.out.zb 4;have r5 := row_frozen HG8.out.zb 5;have r6 := row_frozen HG8.out.zb 6;have r7 := row_frozen HG8.out.zb 7
  go_wp2_with fail
  generalize hwf : World.setCell _ _ _ = wf;have hH : wf.heap[w.heap.size + 2]? = some (.cells (fmC ⟨h.v, h.num, size, h.sc, h.rc, h.wc, mo, []⟩ none 0) 24 (0, 0)) := by rw [<- hwf]; exact set8_a _ _ _ _ _ _ _ _ _ HG8.out.zb
  have hS : Lo w wf := by rw [<- hwf]; exact set8_b _ _ _ _ _ _ _ _ _ _ (by omega) HG8.out.below
  refine bodyPost_ret (v := .tuple #[.agg (fmC ⟨h.v, h.num, size, h.sc, h.rc, h.wc, mo, []⟩ none 0), .int .i64 0]) ?_ rfl ⟨rfl, hS⟩;rw [results_two rfl];have hld := run_loadVar_row (P := Tryz.prog) (wf) (w.heap.size + 2) 24 24 (fmC ⟨h.v, h.num, size, h.sc, h.rc, h.wc, mo, []⟩ none 0) (0, 0) _ hH Tryz.underlying24 rfl info_Frame
  simp [asAddr, Result.andThen, hld])
theorem parse_mal (s : ByteArray) (hs : s.size <= 140737488351232) (a b c d : Int) (i : Inf) (e : Int) (sc : ByteArray) (h0 : ¬ (bytesOf s).getD 0 0 = 255) (w : World) (hL : Lay w) :
  Calls Tryz.prog 13 #[.string s, infV a b c d i e sc] w fun en w' => en = .returned (.tuple #[.slice none 0 0, fmV F0 none 0, .int .i64 0, .int .i64 2]) /\ Lo w w' := by
 refine ps_head s hs a b c d i e sc w hL (fun x wx hr hl hx4 => ?_)
 by_cases h4 : s.size < 4
 ·exact grp1.1 x s hs h4 wx hr hl hx4
 ·have hbs : (bytesOf s).length = s.size := bytesOf_length s
  obtain ⟨c1, c2, c3, c4, c5, c6, c7⟩ := codes_at s (bytesOf s) rfl (by omega)
  have b0 := getD_byte (bytesOf s) (bytesOf_lt s) 0;have b1 := getD_byte (bytesOf s) (bytesOf_lt s) 1;exact grp1.2.1 x s hs (by omega) _ _ _ _ _ _ _ c1 c2 c3 c4 c5 c6 c7 _ rfl (fun h => by omega) wx hr hl hx4
theorem bd_ok (f : Fm) (so : OA) (sk : Nat) (a b c d : Int) (i : Inf) (e : Int) (s : ByteArray) (hr : I64 i.rate) (P : List (List Int)) (po : OA) (pk : Nat) (w : World) (hL : Lay w) (hf : FmAt w f so sk) (hP : RowsAt w po P) (h5 : okF f i P) : Calls Tryz.prog 8 #[fmV f so sk, infV a b c d i e s, .slice po P.length pk] w fun en w' => en = .returned (.tuple #[.string (textOf (frL f i P)), .int .i64 0]) /\ Lo w w' := by
 have h := h5.1
 have h2 := h5.2.1.1
 have h3 : ∀ l ∈ P, (l.length : Int) = f.size := fun l hl => (h5.2.1.2 l hl).1
 have h4 : ∀ l ∈ P, ∀ x ∈ l, sigE x i.wd = 0 := fun l hl => (h5.2.1.2 l hl).2
 have hpl := hP.len
 have hwd := h.1.1.2.1
 have hp4 := hL.size4
 have K1 : Hid (∀ wx, Hid (FX w f so sk a b c d i e s wx) -> Calls Tryz.prog 10 #[fmV f so sk, infV a b c d i e s] wx fun en w' => en = .returned (.int .i64 0) /\ Hid (FX w f so sk a b c d i e s w')) := fun wx hx => (f_check f so sk a b c d i e s hr 0 (fun _ => rfl) (fun hq => absurd (h) hq) wx (hf.below hx.out.below) (hL.below hx.out.below)).mono fun en w' hh => ⟨hh.1, hx.out.next hh.2⟩
 have K2 : Hid (∀ wx, Hid (FX w f so sk a b c d i e s wx) -> Calls Tryz.prog 17 #[.slice po P.length pk, .int .i64 f.size] wx fun en w' => en = .returned (.bool true) /\ Hid (FX w f so sk a b c d i e s w')) := fun wx hx => ((f_long P po pk f.size true (tt_iff (h3)) wx (hP.below hx.out.below))).mono fun en w' hh => ⟨hh.1, by rw [hh.2]; exact hx⟩
 have K3 : Hid (∀ wx, Hid (FX w f so sk a b c d i e s wx) -> Calls Tryz.prog 18 #[.slice po P.length pk, .int .i64 i.wd] wx fun en w' => en = .returned (.bool true) /\ Hid (FX w f so sk a b c d i e s w')) := fun wx hx => ((f_withinW P po pk i.wd hwd true (tt_iff (h4)) wx (hP.below hx.out.below))).mono fun en w' hh => ⟨hh.1, by rw [hh.2]; exact hx⟩
 have hne : ((P.length : Int) != i.ch) = false := by rw [bne_eq_false_iff_eq]; exact h2
 have hall := chn_all f i P h ⟨h2, fun l hl => ⟨h3 l hl, h4 l hl⟩⟩
 have KH : Hid (∀ p wx, w.heap.size + 2 <= p -> BX w f so sk a b c d i e s p none [] wx -> Calls Tryz.prog 20 #[.pointer (some ⟨p, 0, none⟩), fmV f so sk, infV a b c d i e s] wx fun en w' => en = .returned (.tuple #[]) /\ ∃ ao', BX w f so sk a b c d i e s p ao' (sbits (hedC f i)) w') := fun p wx hp hx => (f_whead f so sk a b c d i e s h.1 p (by omega) wx hx.wr (hL.below hx.below)).mono fun en w' q => by
  obtain ⟨q1, ao', q2, q3, q4⟩ := q;exact ⟨q1, ao', hx.put q2 q3 q4⟩
 have KCOD : Hid (∀ p ao B wx, BX w f so sk a b c d i e s p ao B wx -> Calls Tryz.prog 22 #[.int .i64 f.mo, .slice po P.length pk] wx fun en w' => ∃ ro rk, en = .returned (.slice ro (chnL f.mo P).length rk) /\ RowsP (foot p ao) w' ro (chnL f.mo P) /\ Lo wx w') := fun p ao B wx hx => by
  by_cases g0 : f.mo = 0
  ·have e : chnL f.mo P = P := by unfold chnL; rw [if_pos g0]
   rw [e, g0];exact (f_coded_0 P po pk wx).mono fun en w' q => ⟨po, pk, q.1, by rw [q.2]; exact hP.old hx.below (foot p ao) (fun k hk => by have := hx.foot k hk; omega), by rw [q.2]; exact Below.refl _ _⟩
  ·have hmo := h.1.2.2.2.1
   have hch2 : i.ch = 2 := by rcases hmo.2.2 with g | g; exact absurd g g0; exact g
   have hP2 : P.length = 2 := by omega
   have e0 := h3 _ (getD_mem' P 0 (by omega))
   have e1 := h3 _ (getD_mem' P 1 (by omega))
   have hsz := h.1.2.1;have hl2 : (chnL f.mo P).length = 2 := by unfold chnL; rw [if_neg g0]; rfl
   rw [hl2];exact f_coded_2 f.mo (by omega) P hP2 (by omega) (by omega) i.wd (by omega) h4 po pk wx (hP.below hx.below) (foot p ao) (fun k hk => hx.lt k hk)
 have KWS : Hid (∀ p ao wx ro rk, BX w f so sk a b c d i e s p ao (sbits (hedC f i)) wx -> RowsP (foot p ao) wx ro (chnL f.mo P) -> Calls Tryz.prog 21 #[.pointer (some ⟨p, 0, none⟩), fmV f so sk, infV a b c d i e s, .slice ro (chnL f.mo P).length rk] wx fun en w' => en = .returned (.int .i64 0) /\ ∃ ao', BX w f so sk a b c d i e s p ao' (sbits (hedC f i) ++ chB i f.mo f.S (chnL f.mo P) (chnL f.mo P).length) w') := fun p ao wx ro rk hx hrw => (f_wsubs f so sk a b c d i e s hwd (chnL f.mo P) hall.1 hall.2.1 hall.2.2.1 w hf.S p ao (sbits (hedC f i)) (fun k hk => by have := hx.foot k hk; omega) (sbits_01 _) (by rw [sbits_length]; exact Nat.le_trans (hedC_room f i) (by decide)) ro rk wx hx.below hx.wr hrw 0 (fun _ => rfl) (fun hh => absurd (hall.2.2.2.2 h5) hh)).mono fun en w' q => by
  obtain ⟨q1, q2, ao', q3, q4⟩ := q;exact ⟨q1, ao', hx.put (q4 (hall.2.2.2.2 h5)) q2 q3⟩
 have hn := hall.1
 have HFR : Hid (sbits (hedC f i) ++ chB i f.mo f.S (chnL f.mo P) (chnL f.mo P).length = sbits (hedC f i) ++ subsB f i P f.S.length) := by show _ = _; rw [subsB_ch, hn]
 rw [HFR.out] at KWS
 have hbits := subsB_ok f i P h5
 have hcl := hedC_lt f i h.1
 have hroom := hedC_room f i
 have HPK : Hid (pack (sbits (hedC f i) ++ subsB f i P f.S.length) = hedC f i ++ pack (subsB f i P f.S.length)) := pack_sbits_app _ _ hcl hbits.1
 have HLTT : Hid (∀ b ∈ hedC f i ++ pack (subsB f i P f.S.length), b < 256) := fun b hb => by
  rcases List.mem_append.1 hb with hb | hb
  ·exact hcl b hb
  ·exact pack_lt _ hbits.1 b hb
 have HFL : Hid (frL f i P = (hedC f i ++ pack (subsB f i P f.S.length)) ++ be2 (crc16N (hedC f i ++ pack (subsB f i P f.S.length)))) := rfl
 have HBB : Hid (Bits01 (sbits (hedC f i) ++ subsB f i P f.S.length) /\ (sbits (hedC f i) ++ subsB f i P f.S.length).length <= 900000000000) := ⟨(sbits_01 _).append hbits.1, by rw [List.length_append, sbits_length]; have := hbits.2; omega⟩
 clear hn hbits hcl hroom HFR
 clear h h2 h3 h4 h5 hall hwd
 have HL := kQ hL
 clear hL hf hP
 generalize chnL f.mo P = L at *
 generalize sbits (hedC f i) ++ subsB f i P f.S.length = BB at *
 generalize hedC f i ++ pack (subsB f i P f.S.length) = TT at *
 generalize sbits (hedC f i) = HH at *
 have HA : Hid (FX w f so sk a b c d i e s ((w.alloc (.cells (fmC f so sk) 24)).alloc (.cells (infC a b c d i e s) 26))) := FX.new w f so sk a b c d i e s
 go_enter Tryz.func8, Tryz.ntmps8
 go_upto_region 1 with fail
 generalize World.alloc _ _ = wa at *
 obtain ⟨f0, f1, f2, f3, f4, f5, f6, f7, i0, i1, i2, i3, i4, i5, i6, i7, i8⟩ := HA.out.cells
 go_wp2_with fail
 refine (K1.out _ HA).mono ?_
 rintro en w1 ⟨rfl, HB1⟩
 clear HA f0 f1 f2 f3 f4 f5 f6 f7 i0 i1 i2 i3 i4 i5 i6 i7 i8
 obtain ⟨f0, f1, f2, f3, f4, f5, f6, f7, i0, i1, i2, i3, i4, i5, i6, i7, i8⟩ := HB1.out.cells
 go_wp2_with fail
 refine (K2.out _ HB1).mono ?_
 rintro en w2 ⟨rfl, HB2⟩
 clear HB1 f0 f1 f2 f3 f4 f5 f6 f7 i0 i1 i2 i3 i4 i5 i6 i7 i8
 obtain ⟨f0, f1, f2, f3, f4, f5, f6, f7, i0, i1, i2, i3, i4, i5, i6, i7, i8⟩ := HB2.out.cells
 go_wp2_with fail
 refine (K3.out _ HB2).mono ?_
 rintro en w3 ⟨rfl, HB3⟩
 clear HB2 f0 f1 f2 f3 f4 f5 f6 f7 i0 i1 i2 i3 i4 i5 i6 i7 i8
 obtain ⟨f0, f1, f2, f3, f4, f5, f6, f7, i0, i1, i2, i3, i4, i5, i6, i7, i8⟩ := HB3.out.cells
 go_wp2_with fail
 have kn := new_spec w3
 refine kn.mono ?_
 rintro en w4 ⟨rfl, hw4, hq4⟩
 have HX4 : Hid (BX w f so sk a b c d i e s w3.heap.size none [] w4) := by
  have hb : Lo w3 w4 := by rw [hq4]; exact aQ
  have g := HB3.out.next hb;exact ⟨g.fb, g.ib, g.below, hw4, by have := lt_of_block HB3.out.ib; omega, fun k hk => by cases hk⟩
 have hp2 : w.heap.size + 2 <= w3.heap.size := by have := lt_of_block HB3.out.ib; omega
 clear kn hw4 hq4 HB3
 clear f0 f1 f2 f3 f4 f5 f6 f7 i0 i1 i2 i3 i4 i5 i6 i7 i8
 generalize w3.heap.size = p at *
 obtain ⟨f0, f1, f2, f3, f4, f5, f6, f7, i0, i1, i2, i3, i4, i5, i6, i7, i8⟩ := HX4.out.cells
 go_wp2_with fail
 refine (KH.out p _ hp2 HX4.out).mono ?_
 rintro en w5 ⟨rfl, ao5, hx5⟩
 have HX5 := kQ hx5
 have HD : Hid (BX w f so sk a b c d i e s p ao5 HH w5.drew) := hx5.low dQ
 clear hx5 KH HX4
 clear f0 f1 f2 f3 f4 f5 f6 f7 i0 i1 i2 i3 i4 i5 i6 i7 i8
 go_wp2_with fail
 refine wp_region_held_drew (S := fun wx => FX w f so sk a b c d i e s wx) (by kernel_rfl) ⟨HD.out.fb, HD.out.ib, HD.out.below⟩ (fun hS => ?_)
 refine vQ 0 (.pointer (some ⟨p, 0, none⟩)) hS ?_
 simp only [SL]
 refine uQ 1 (fmV f so sk) rfl hS (Or.inl ⟨by rfl, fun w hSw => by obtain ⟨f0, f1, f2, f3, f4, f5, f6, f7, i0, i1, i2, i3, i4, i5, i6, i7, i8⟩ := hSw.cells; go_simp⟩) ?_
 simp only [SL]
 refine uQ 2 (infV a b c d i e s) rfl hS (Or.inl ⟨by rfl, fun w hSw => by obtain ⟨f0, f1, f2, f3, f4, f5, f6, f7, i0, i1, i2, i3, i4, i5, i6, i7, i8⟩ := hSw.cells; go_simp⟩) ?_
 simp only [SL]
 refine vQ 3 (.pointer (some ⟨w.heap.size, 6, none⟩)) hS ?_
 simp only [SL]
 refine uQ 4 (.int .i64 f.mo) rfl hS (Or.inl ⟨by rfl, fun w hSw => by obtain ⟨f0, f1, f2, f3, f4, f5, f6, f7, i0, i1, i2, i3, i4, i5, i6, i7, i8⟩ := hSw.cells; go_simp⟩) ?_
 simp only [SL]
 refine vQ 5 (.slice po P.length pk) hS ?_
 simp only [SL]
 refine wpAnyH_ready (rs := [6]) (by kernel_rfl) (by simp) ?_
 refine AllReadyH.cons rfl (fun K hK => ?_) AllReadyH.nil
 go_simp
 refine (KCOD.out p ao5 HH _ HD.out).mono ?_
 rintro en w6 ⟨ro, rk, rfl, hr6, hb6⟩
 have HX6 := kQ (HD.out.low hb6)
 have HR6 := kQ hr6
 clear hr6 hb6 KCOD
 refine hK.out _ _ ⟨HX6.out.fb, HX6.out.ib, HX6.out.below⟩ (fun hS6 => ?_)
 clear hK K
 try simp only [SL]
 refine wpAnyH_ready (rs := [7]) (by kernel_rfl) (by simp) ?_
 refine AllReadyH.cons rfl (fun K hK => ?_) AllReadyH.nil
 go_simp
 refine (KWS.out p ao5 _ ro rk HX6.out HR6.out).mono ?_
 rintro en w7 ⟨rfl, ao7, hx7⟩
 have HX7 := kQ hx7
 clear hx7 KWS HR6 HX6 HX5 HD
 refine hK.out _ _ ⟨HX7.out.fb, HX7.out.ib, HX7.out.below⟩ (fun hS7 => ?_)
 clear hK K
 try simp only [SL]
 refine vQ 8 (.int .i64 0) hS7 ?_
 simp only [SL]
 refine wpAnyH_done (by kernel_rfl) ?_ _
 clear hS hS6 hS7
 have kal := align_spec p w7 ao7 BB (by have := HBB.out.2; omega) HX7.out.wr
 rw [align_bits BB HBB.out.1, HPK.out] at kal
 go_wp2_with fail
 refine kal.mono ?_
 rintro en w8 ⟨rfl, hw8, hs8⟩
 have HX8 : Hid (BX w f so sk a b c d i e s p ao7 (sbits TT) w8) := HX7.out.put hw8 hs8 (Moved.refl _ _)
 clear kal hw8 hs8 HX7
 have htl : (sbits TT).length <= 900000000100 := by
  have h1 := congrArg List.length HPK.out;rw [pack_length] at h1;have := HBB.out.2;rw [sbits_length]; omega
 have kb := bytes_spec p w8 ao7 (sbits TT) (sbits_01 _) (by omega) HX8.out.wr
 rw [pack_sbits TT HLTT.out] at kb
 have kcr := S3.crc16_spec (textOf TT) (by rw [textOf_size]; rw [sbits_length] at htl; omega) w8 (HL.out.below HX8.out.below).u
 have hc16 : S3.c16 (textOf TT) = crc16N TT := by unfold S3.c16 crc16N; rw [bytesOf_textOf _ HLTT.out]
 rw [hc16] at kcr
 have hclt := crc16_lt TT
 have HEND : Hid (sbits TT ++ putB ((crc16N TT : Nat) : Int) 16 = sbits (frL f i P)) := by
  show _ = _;rw [put_16 _ hclt, <- sbits_append, HFL.out]; rfl
 have HFB : Hid (∀ b ∈ frL f i P, b < 256) := fun b hb => by
  rw [HFL.out] at hb
  rcases List.mem_append.1 hb with hb | hb
  ·exact HLTT.out b hb
  ·exact be2_lt _ hclt b hb
 have hfrl : (sbits (frL f i P)).length <= 900000000200 := by
  rw [HFL.out, sbits_append, List.length_append, sbits_length (be2 _), be2_len]; omega
 clear hc16 HFL HPK HBB
 generalize crc16N TT = cv at *
 generalize textOf TT = tx at *
 go_wp2_with fail
 refine kb.mono ?_
 rintro en wq ⟨rfl, hwq⟩
 have hwq2 := hwq.symm
 clear hwq kb
 subst hwq2
 go_wp2_with fail
 refine kcr.mono ?_
 rintro en w9 ⟨rfl, hb9⟩
 have HX9 := kQ (HX8.out.low hb9)
 clear kcr hb9 HX8
 have kp := wput_all (B := sbits TT) (w := w9) (ao := ao7) p (cv : Int) 16 (by omega) (by omega) (sbits_01 _) (by omega) HX9.out.wr
 go_wp2_with fail
 refine kp.mono ?_
 rintro en w10 ⟨rfl, ao10, hw10, hs10, hm10⟩
 rw [HEND.out] at hw10
 have HX10 := kQ (HX9.out.put hw10 hs10 hm10)
 clear kp hw10 hs10 hm10 HX9 HEND
 have kb := bytes_spec p w10 ao10 (sbits (frL f i P)) (sbits_01 _) (by omega) HX10.out.wr
 rw [pack_sbits _ HFB.out] at kb
 go_wp2_with fail
 refine kb.mono ?_
 rintro en w11 ⟨rfl, hw11⟩
 have hw12 := hw11.symm
 clear hw11 kb
 subst hw12
 go_wp2_with fail
 go_ret2
 exact ⟨rfl, HX10.out.below⟩
theorem build_no (f : Fm) (so : OA) (sk : Nat) (a b c d : Int) (i : Inf) (e : Int) (sc : ByteArray) (hr : I64 i.rate) (P : List (List Int)) (po : OA) (pk : Nat) (w : World) (hL : Lay w) (hf : FmAt w f so sk) (hP : RowsAt w po P) (hno : ¬ okF f i P) : Calls Tryz.prog 8 #[fmV f so sk, infV a b c d i e sc, .slice po P.length pk] w fun en w' => en = .returned (.tuple #[.string ⟨#[]⟩, .int .i64 60]) /\ Lo w w' := by
 by_cases h1 : okC f i
 case neg => exact bd_chk f so sk a b c d i e sc hr P po pk w hL hf hP h1
 by_cases h2 : (P.length : Int) = i.ch
 case neg => exact bd_len f so sk a b c d i e sc hr P po pk w hL hf hP h1 h2
 by_cases h3 : ∀ l ∈ P, (l.length : Int) = f.size
 case neg => exact bd_long f so sk a b c d i e sc hr P po pk w hL hf hP h1 h2 h3
 by_cases h4 : ∀ l ∈ P, ∀ x ∈ l, sigE x i.wd = 0
 case neg => exact bd_with f so sk a b c d i e sc hr P po pk w hL hf hP h1 h2 h3 h4
 exact bd_no f so sk a b c d i e sc hr P po pk w hL hf hP h1 h2 h3 h4 hno
theorem build_ok (f : Fm) (so : OA) (sk : Nat) (a b c d : Int) (i : Inf) (e : Int) (sc : ByteArray) (hr : I64 i.rate) (P : List (List Int)) (po : OA) (pk : Nat) (w : World) (hL : Lay w) (hf : FmAt w f so sk) (hP : RowsAt w po P) (hok : okF f i P) : Calls Tryz.prog 8 #[fmV f so sk, infV a b c d i e sc, .slice po P.length pk] w fun en w' => en = .returned (.tuple #[.string (textOf (frL f i P)), .int .i64 0]) /\ Lo w w' :=
 bd_ok f so sk a b c d i e sc hr P po pk w hL hf hP hok
theorem info_Info : (Tryz.prog.info? 26).map (·.size) = some 9 := by kernel_rfl
theorem info_spec (w : World) : Calls Tryz.prog 41 #[] w fun en w' => en = .returned (infV 16 4608 0 0 ⟨8000, 1, 8⟩ 0 ⟨#[]⟩) /\ Lo w w' := by
 go_enter Tryz.func41, Tryz.ntmps41
 go_wp2_with fail
 refine bodyPost_ret (v := infV 16 4608 0 0 ⟨8000, 1, 8⟩ 0 ⟨#[]⟩) ?_ rfl ⟨rfl, aQ⟩
 rw [S3.results_cell rfl]
 have hld := run_loadVar_row (P := Tryz.prog) (w.alloc (.cells (infC 16 4608 0 0 ⟨8000, 1, 8⟩ 0 ⟨#[]⟩) 26)) w.heap.size 26 26 (infC 16 4608 0 0 ⟨8000, 1, 8⟩ 0 ⟨#[]⟩) (0, 0) _ (heap_alloc_new _ _) Tryz.underlying26 rfl info_Info
 simp [asAddr, Result.andThen, hld]
abbrev exF : Fm := ⟨false, 0, 16, 6, 4, 1, 0, [Sb0]⟩
abbrev exI : Inf := ⟨8000, 1, 8⟩
abbrev exP : List (List Int) := [List.replicate 16 0]
theorem ex_ok : okF exF exI exP := by
 refine ⟨⟨⟨by decide, by decide, by decide, by decide, ⟨by decide, .inr (.inl ⟨rfl, by decide⟩)⟩, .inr (.inl ⟨by decide, by decide⟩), .inr ⟨by decide, by decide, by decide⟩⟩, rfl, fun c hc => ?_⟩, ⟨rfl, fun l hl => ?_⟩, fun c hc => ?_⟩
 ·have e : c = 0 := by have : c < 1 := hc; omega
  subst e;exact ⟨⟨by decide, by decide⟩, ⟨by decide, by decide⟩, ⟨by decide, by decide⟩, .inl ⟨.inl rfl, ⟨rfl, rfl, rfl⟩, rfl, rfl⟩⟩
 ·rw [List.mem_singleton] at hl
  subst hl;exact ⟨by decide, fun x hx => by rw [(List.mem_replicate.1 hx).2]; decide⟩
 ·have e : c = 0 := by have : c < 1 := hc; omega
  subst e;refine ⟨?_, by decide, ?_, ?_⟩
  ·intro x hx
   have hx2 : x ∈ List.replicate 16 (0 : Int) := hx;rw [(List.mem_replicate.1 hx2).2]; decide
  ·intro _ x hx
   have hx2 : x ∈ List.replicate 16 (0 : Int) := hx;rw [(List.mem_replicate.1 hx2).2]; rfl
  ·intro h; rcases h with h | h <;> cases h
theorem ex_bytes : (frL exF exI exP).length = 11 /\ (frL exF exI exP).take 6 = [255, 248, 100, 2, 0, 15] := by decide +kernel
structure AW (w wx : World) : Prop where
 sb : wx.heap[w.heap.size]? = some (.cells #[.int .i64 0, .int .i64 0, .int .i64 0, .int .i64 0, .int .i64 0, .slice none 0 0, .int .i64 0, .int .i64 0, .slice none 0 0, .slice none 0 0] 67 (0, 0))
 fb : wx.heap[w.heap.size + 1]? = some (.cells #[.bool false, .int .i64 0, .int .i64 16, .int .i64 6, .int .i64 4, .int .i64 1, .int .i64 0, .slice (some ⟨w.heap.size, 0, none⟩) 1 1] 24 (0, 0))
 low : Lo w wx
theorem AW.next {w wx w' : World} (h : AW w wx) (hb : Lo wx w') : AW w w' :=
 ⟨by rw [hb.block _ (lt_of_block h.sb)]; exact h.sb, by rw [hb.block _ (lt_of_block h.fb)]; exact h.fb, h.low.trans (hb.mono h.low.size)⟩
theorem AW.fm {w wx : World} (h : AW w wx) : FmAt wx exF (some ⟨w.heap.size, 0, none⟩) 1 := by
 refine ⟨⟨by decide, fun _ => ⟨w.heap.size, 0, rfl, fun c hc => ?_⟩⟩, ⟨by decide, fun h => by cases h⟩, by decide, by decide, by decide, by decide, by decide, by decide⟩
 have e : c = 0 := by have : c < 1 := hc; omega
 subst e
 refine ⟨none, 0, none, 0, none, 0, ?_, ⟨IntsAt.nil wx, ⟨IntsAt.nil wx, IntsAt.nil wx, by decide, by decide, by decide, by decide⟩, by decide, by decide, by decide, by decide, by decide⟩, by decide, fun _ => rfl⟩
 refine ⟨?_, ?_, ?_, ?_, ?_, ?_, ?_, ?_, ?_, ?_⟩ <;> (rw [cell_of_row _ _ _ _ _ _ h.sb]; rfl)
theorem AW.cells {w wx : World} (h : AW w wx) : wx.cell? ⟨w.heap.size + 1, 0, none⟩ = some (.bool false) /\ wx.cell? ⟨w.heap.size + 1, 1, none⟩ = some (.int .i64 0) /\ wx.cell? ⟨w.heap.size + 1, 2, none⟩ = some (.int .i64 16) /\ wx.cell? ⟨w.heap.size + 1, 3, none⟩ = some (.int .i64 6) /\ wx.cell? ⟨w.heap.size + 1, 4, none⟩ = some (.int .i64 4) /\ wx.cell? ⟨w.heap.size + 1, 5, none⟩ = some (.int .i64 1) /\ wx.cell? ⟨w.heap.size + 1, 6, none⟩ = some (.int .i64 0) /\ wx.cell? ⟨w.heap.size + 1, 7, none⟩ = some (.slice (some ⟨w.heap.size, 0, none⟩) 1 1) := by
 refine ⟨?_, ?_, ?_, ?_, ?_, ?_, ?_, ?_⟩ <;> (rw [cell_row h.fb]; rfl)
theorem zero_rows {wx : World} {b1 b2 : Nat} (h1 : wx.heap[b1]? = some (.cells (madeCells #[.int .i64 0] 16) 3 (0, 0))) (h2 : wx.heap[b2]? = some (.cells #[.slice (some ⟨b1, 0, none⟩) 16 16] 56 (0, 0))) : RowsAt wx (some ⟨b2, 0, none⟩) exP := by
 refine ⟨by decide, fun _ => ⟨b2, 0, rfl, fun i hi => ?_⟩⟩
 have e : i = 0 := by have : i < 1 := hi; omega
 subst e
 refine ⟨some ⟨b1, 0, none⟩, 16, by rw [cell_row h2]; rfl, by decide, (fun h => by cases h), ?_⟩
 show IntsAt wx (some ⟨b1, 0, none⟩) (List.replicate 16 0)
 refine ⟨by decide, fun x hx => by rw [(List.mem_replicate.1 hx).2]; decide, fun _ => ⟨b1, 0, rfl, fun j hj => ?_⟩⟩
 have hj2 : j < 16 := by rw [List.length_replicate] at hj; exact hj
 rw [Nat.zero_add, cell_row h1, List.getD_eq_getElem?_getD, List.getElem?_replicate, if_pos hj2]
 simp only [madeCells, Array.getElem?_map, Array.getElem?_range]
 have hs : (#[.int .i64 0] : Array Value).size = 1 := rfl
 rw [hs, if_pos hj2, Option.map_some, Nat.mod_one]
 rfl
theorem ex_text : ∃ t : ByteArray, textOf (frL exF exI exP) = t /\ t.size = 11 /\ t.extract 0 6 = ⟨#[255, 248, 100, 2, 0, 15]⟩ /\ bytesOf (t ++ ⟨#[120]⟩) = frL exF exI exP ++ [120] := by
 refine ⟨_, rfl, ?_, ?_, ?_⟩ <;> decide +kernel
end Go.Proofs.YtfpfabmbipmipaaGreatDoor
