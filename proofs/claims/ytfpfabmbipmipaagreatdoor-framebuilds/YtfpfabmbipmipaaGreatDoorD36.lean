/- Own text. -/
import Derived.Test.YtfpfabmbipmipaaGreatDoorD34
set_option linter.unusedSimpArgs false
set_option linter.unusedVariables false
set_option maxRecDepth 20000
set_option maxHeartbeats 12800000
namespace Go.Proofs.YtfpfabmbipmipaaGreatDoor
open Go.RowKit
theorem set8_a {wx : World} (n : Nat) (v0 v1 v2 v3 v4 v5 v6 v7 : Value) {a0 a1 a2 a3 a4 a5 a6 a7 : Value} {t : TypeId} (h : wx.heap[n]? = some (.cells #[a0, a1, a2, a3, a4, a5, a6, a7] t (0, 0))) : ((((((((wx.setCell ⟨n, 0, none⟩ v0).setCell ⟨n, 1, none⟩ v1).setCell ⟨n, 2, none⟩ v2).setCell ⟨n, 3, none⟩ v3).setCell ⟨n, 4, none⟩ v4).setCell ⟨n, 5, none⟩ v5).setCell ⟨n, 6, none⟩ v6).setCell ⟨n, 7, none⟩ v7).heap[n]? = some (.cells #[v0, v1, v2, v3, v4, v5, v6, v7] t (0, 0)) := by
 rw [block_setCell _ _ _ _ _ _ (block_setCell _ _ _ _ _ _ (block_setCell _ _ _ _ _ _ (block_setCell _ _ _ _ _ _ (block_setCell _ _ _ _ _ _ (block_setCell _ _ _ _ _ _ (block_setCell _ _ _ _ _ _ (block_setCell _ _ _ _ _ _ h)))))))]
 simp only [List.setIfInBounds_toArray, List.set_cons_zero, List.set_cons_succ]
theorem set8_c {wx : World} (n : Nat) (v0 v1 v2 v3 v4 v5 v6 v7 : Value) (w : World) (S : Nat -> Prop) (hn : S n ∨ w.heap.size <= n) (h : Stays S w wx) : Stays S w ((((((((wx.setCell ⟨n, 0, none⟩ v0).setCell ⟨n, 1, none⟩ v1).setCell ⟨n, 2, none⟩ v2).setCell ⟨n, 3, none⟩ v3).setCell ⟨n, 4, none⟩ v4).setCell ⟨n, 5, none⟩ v5).setCell ⟨n, 6, none⟩ v6).setCell ⟨n, 7, none⟩ v7) :=
 (((((((h.setCell _ _ hn).setCell _ _ hn).setCell _ _ hn).setCell _ _ hn).setCell _ _ hn).setCell _ _ hn).setCell _ _ hn).setCell _ _ hn
theorem set8_b {wx : World} (n : Nat) (v0 v1 v2 v3 v4 v5 v6 v7 : Value) (w : World) (hn : w.heap.size <= n) (h : Lo w wx) : Lo w ((((((((wx.setCell ⟨n, 0, none⟩ v0).setCell ⟨n, 1, none⟩ v1).setCell ⟨n, 2, none⟩ v2).setCell ⟨n, 3, none⟩ v3).setCell ⟨n, 4, none⟩ v4).setCell ⟨n, 5, none⟩ v5).setCell ⟨n, 6, none⟩ v6).setCell ⟨n, 7, none⟩ v7) :=
 (((((((h.setCell hn _).setCell hn _).setCell hn _).setCell hn _).setCell hn _).setCell hn _).setCell hn _).setCell hn _
theorem set8_d {wx : World} (n : Nat) (v0 v1 v2 v3 v4 v5 v6 v7 : Value) (j : Nat) (h0 : j ≠ n) : ((((((((wx.setCell ⟨n, 0, none⟩ v0).setCell ⟨n, 1, none⟩ v1).setCell ⟨n, 2, none⟩ v2).setCell ⟨n, 3, none⟩ v3).setCell ⟨n, 4, none⟩ v4).setCell ⟨n, 5, none⟩ v5).setCell ⟨n, 6, none⟩ v6).setCell ⟨n, 7, none⟩ v7).heap[j]? = wx.heap[j]? := by
 rw [Below.heap_setCell _ _ _ j h0, Below.heap_setCell _ _ _ j h0, Below.heap_setCell _ _ _ j h0, Below.heap_setCell _ _ _ j h0, Below.heap_setCell _ _ _ j h0, Below.heap_setCell _ _ _ j h0, Below.heap_setCell _ _ _ j h0, Below.heap_setCell _ _ _ j h0]
theorem info_head : (Tryz.prog.info? 78).map (·.size) = some 8 := by kernel_rfl
theorem Lay.two {w w' : World} {x g : Nat} (h : Lay w) (hs : Stays (two x g) w w') (hx : 4 <= x) (hg : 4 <= g) : Lay w' := by
 have tab : ∀ {b : Nat} {T : List Int}, b < 4 -> IntTab b T w -> IntTab b T w' := fun {b T} hb4 ht j hj => by
  have h1 := ht j hj;rw [<- h1]; exact World.cell?_of_block (w := w) (hs.block _ (lt_cell h1) (fun e => by have e2 : b = x ∨ b = g := e; omega))
 refine ⟨tab (by decide) h.z, tab (by decide) h.r, tab (by decide) h.d, ?_⟩
 obtain ⟨t, fz, hb⟩ := h.u
 exact ⟨t, fz, by rw [hs.block _ (lt_of_block hb) (fun e => by have e2 : 3 = x ∨ 3 = g := e; omega)]; exact hb⟩
theorem Lay.size4 {w : World} (h : Lay w) : 4 <= w.heap.size := by
 have h1 := h.z 0 (by decide)
 have h2 := S3.RulesAt.size h.u
 have h3 := lt_cell (h.d 0 (by decide))
 have h4 := lt_cell (h.r 0 (by decide))
 simp only at h3 h4
 omega
theorem hd_cells {w : World} {g : Nat} {h : Hd} (hh : w.heap[g]? = some (.cells (hdC h) 78 (0, 0))) : w.cell? ⟨g, 0, none⟩ = some (.bool h.v) /\ w.cell? ⟨g, 1, none⟩ = some (.int .i64 h.sc) /\ w.cell? ⟨g, 2, none⟩ = some (.int .i64 h.rc) /\ w.cell? ⟨g, 3, none⟩ = some (.int .i64 h.cc) /\ w.cell? ⟨g, 4, none⟩ = some (.int .i64 h.wc) /\ w.cell? ⟨g, 5, none⟩ = some (.int .i64 h.num) /\ w.cell? ⟨g, 6, none⟩ = some (.int .i64 h.sz) /\ w.cell? ⟨g, 7, none⟩ = some (.int .i64 h.rt) := by
 refine ⟨?_, ?_, ?_, ?_, ?_, ?_, ?_, ?_⟩ <;> (rw [cell_of_row _ _ _ _ _ _ hh]; rfl)
theorem grp1 : (∀ (x : Nat) (s : ByteArray) (hs : s.size <= 140737488351232) (h4 : s.size < 4) (w : World) (hr : Rd w x s 0) (hL : Lay w) (hx4 : 4 <= x), Calls Tryz.prog 43 #[.pointer (some ⟨x, 0, none⟩), .string s] w fun en w' => en = .returned (.tuple #[.agg (hdC H0), .bool false]) /\ Stays (only x) w w') /\ (∀ (x : Nat) (s : ByteArray) (hs : s.size <= 140737488351232) (h4 : 4 <= s.size) (n15 n1 nsc nrc ncc nwc n31 : Nat) (e15 : bitsAt s 0 15 = n15) (e1 : bitsAt s 15 1 = n1) (esc : bitsAt s 16 4 = nsc) (erc : bitsAt s 20 4 = nrc) (ecc : bitsAt s 24 4 = ncc) (ewc : bitsAt s 28 3 = nwc) (e31 : bitsAt s 31 1 = n31) (v : Bool) (hv : ((n1 : Int) == 1) = v) (hno : ¬ (n15 = 32764 /\ n31 = 0)) (w : World) (hr : Rd w x s 0) (hL : Lay w) (hx4 : 4 <= x), Calls Tryz.prog 43 #[.pointer (some ⟨x, 0, none⟩), .string s] w fun en w' => en = .returned (.tuple #[.agg (hdC H0), .bool false]) /\ Stays (only x) w w') /\ (∀ (x : Nat) (s : ByteArray) (hs : s.size <= 140737488351232) (h4 : 4 <= s.size) (n15 n1 nsc nrc ncc nwc n31 : Nat) (e15 : bitsAt s 0 15 = n15) (e1 : bitsAt s 15 1 = n1) (esc : bitsAt s 16 4 = nsc) (erc : bitsAt s 20 4 = nrc) (ecc : bitsAt s 24 4 = ncc) (ewc : bitsAt s 28 3 = nwc) (e31 : bitsAt s 31 1 = n31) (v : Bool) (hv : ((n1 : Int) == 1) = v) (hyes : n15 = 32764 /\ n31 = 0) (num k : Nat) (hu : uncode ((bytesOf s).drop 4) = (num, k, 0)) (zn rn : Nat) (hz : szb (nsc : Int) = zn) (hrn : rtb (nrc : Int) = rn) (hz2 : zn <= 2) (hr2 : rn <= 2) (hk8 : 32 + 8 * k <= 8 * s.size) (hl : 8 * s.size < 32 + 8 * k + (8 * zn + 8 * rn)) (w : World) (hr : Rd w x s 0) (hL : Lay w) (hx4 : 4 <= x), Calls Tryz.prog 43 #[.pointer (some ⟨x, 0, none⟩), .string s] w fun en w' => en = .returned (.tuple #[.agg (hdC H0), .bool false]) /\ Stays (only x) w w') /\ (∀ (x : Nat) (s : ByteArray) (hs : s.size <= 140737488351232) (h4 : 4 <= s.size) (n15 n1 nsc nrc ncc nwc n31 : Nat) (e15 : bitsAt s 0 15 = n15) (e1 : bitsAt s 15 1 = n1) (esc : bitsAt s 16 4 = nsc) (erc : bitsAt s 20 4 = nrc) (ecc : bitsAt s 24 4 = ncc) (ewc : bitsAt s 28 3 = nwc) (e31 : bitsAt s 31 1 = n31) (v : Bool) (hv : ((n1 : Int) == 1) = v) (hyes : n15 = 32764 /\ n31 = 0) (num k : Nat) (hu : uncode ((bytesOf s).drop 4) = (num, k, 0)) (zn rn : Nat) (hz : szb (nsc : Int) = zn) (hrn : rtb (nrc : Int) = rn) (hz2 : zn <= 2) (hr2 : rn <= 2) (hl : 32 + 8 * k + 8 * zn + 8 * rn <= 8 * s.size) (hen : s.size < 4 + k + zn + rn + 1) (w : World) (hr : Rd w x s 0) (hL : Lay w) (hx4 : 4 <= x), Calls Tryz.prog 43 #[.pointer (some ⟨x, 0, none⟩), .string s] w fun en w' => en = .returned (.tuple #[.agg (hdC H0), .bool false]) /\ Stays (only x) w w') /\ (∀ (x : Nat) (s : ByteArray) (hs : s.size <= 140737488351232) (h4 : 4 <= s.size) (n15 n1 nsc nrc ncc nwc n31 : Nat) (e15 : bitsAt s 0 15 = n15) (e1 : bitsAt s 15 1 = n1) (esc : bitsAt s 16 4 = nsc) (erc : bitsAt s 20 4 = nrc) (ecc : bitsAt s 24 4 = ncc) (ewc : bitsAt s 28 3 = nwc) (e31 : bitsAt s 31 1 = n31) (v : Bool) (hv : ((n1 : Int) == 1) = v) (hyes : n15 = 32764 /\ n31 = 0) (num k : Nat) (hu : uncode ((bytesOf s).drop 4) = (num, k, 0)) (zn rn : Nat) (hz : szb (nsc : Int) = zn) (hrn : rtb (nrc : Int) = rn) (hz2 : zn <= 2) (hr2 : rn <= 2) (hen : 4 + k + zn + rn + 1 <= s.size) (hc : ¬ bitsAt s (8 * (4 + k + zn + rn)) 8 = crc8N ((bytesOf s).take (4 + k + zn + rn))) (w : World) (hr : Rd w x s 0) (hL : Lay w) (hx4 : 4 <= x), Calls Tryz.prog 43 #[.pointer (some ⟨x, 0, none⟩), .string s] w fun en w' => en = .returned (.tuple #[.agg (hdC H0), .bool false]) /\ Stays (only x) w w') /\ (∀ (x : Nat) (s : ByteArray) (hs : s.size <= 140737488351232) (h4 : 4 <= s.size) (n15 n1 nsc nrc ncc nwc n31 : Nat) (e15 : bitsAt s 0 15 = n15) (e1 : bitsAt s 15 1 = n1) (esc : bitsAt s 16 4 = nsc) (erc : bitsAt s 20 4 = nrc) (ecc : bitsAt s 24 4 = ncc) (ewc : bitsAt s 28 3 = nwc) (e31 : bitsAt s 31 1 = n31) (v : Bool) (hv : ((n1 : Int) == 1) = v) (hyes : n15 = 32764 /\ n31 = 0) (num k : Nat) (hu : uncode ((bytesOf s).drop 4) = (num, k, 0)) (zn rn : Nat) (hz : szb (nsc : Int) = zn) (hrn : rtb (nrc : Int) = rn) (hz2 : zn <= 2) (hr2 : rn <= 2) (hen : 4 + k + zn + rn + 1 <= s.size) (hc : bitsAt s (8 * (4 + k + zn + rn)) 8 = crc8N ((bytesOf s).take (4 + k + zn + rn))) (w : World) (hr : Rd w x s 0) (hL : Lay w) (hx4 : 4 <= x), Calls Tryz.prog 43 #[.pointer (some ⟨x, 0, none⟩), .string s] w fun en w' => en = .returned (.tuple #[.agg (hdC ⟨v, (nsc : Int), (nrc : Int), (ncc : Int), (nwc : Int), (num : Int), (bitsAt s (32 + 8 * k) (8 * zn) : Int), (bitsAt s (32 + 8 * k + 8 * zn) (8 * rn) : Int)⟩), .bool true]) /\ Rd w' x s (32 + 8 * k + 8 * zn + 8 * rn + 8) /\ Stays (only x) w w') := by
 refine ⟨?_, ?_, ?_, ?_, ?_, ?_⟩
 focus
  intro x s hs h4 w hr hL hx4;have KA : Hid (HX x (w.heap.size + 1) s H0 0 ((w.alloc (.cells (hdC H0) 78)).alloc (.cells (hdC H0) 78)) ((w.alloc (.cells (hdC H0) 78)).alloc (.cells (hdC H0) 78)) -> Calls Tryz.prog 94 #[.pointer (some ⟨x, 0, none⟩), .pointer (some ⟨w.heap.size + 1, 0, none⟩)] ((w.alloc (.cells (hdC H0) 78)).alloc (.cells (hdC H0) 78)) fun en w' => en = .returned (.bool false) /\ HX x (w.heap.size + 1) s H0 0 ((w.alloc (.cells (hdC H0) 78)).alloc (.cells (hdC H0) 78)) w') := fun hh => (f_codes_no x ⟨w.heap.size + 1, 0, none⟩ s h4 ((w.alloc (.cells (hdC H0) 78)).alloc (.cells (hdC H0) 78)) hh.rd).mono fun en w' q => ⟨q.1, by obtain ⟨n, q2⟩ := q.2; rw [q2]; exact hh.low (below_drewN _ _)⟩
 rotate_left
 focus
  intro x s hs h4 n15 n1 nsc nrc ncc nwc n31 e15 e1 esc erc ecc ewc e31 v hv hno w hr hL hx4;have KA : Hid (HX x (w.heap.size + 1) s H0 0 ((w.alloc (.cells (hdC H0) 78)).alloc (.cells (hdC H0) 78)) ((w.alloc (.cells (hdC H0) 78)).alloc (.cells (hdC H0) 78)) -> Calls Tryz.prog 94 #[.pointer (some ⟨x, 0, none⟩), .pointer (some ⟨w.heap.size + 1, 0, none⟩)] ((w.alloc (.cells (hdC H0) 78)).alloc (.cells (hdC H0) 78)) fun en w' => en = .returned (.bool false) /\ HX x (w.heap.size + 1) s ⟨v, (nsc : Int), (nrc : Int), (ncc : Int), (nwc : Int), 0, 0, 0⟩ 32 ((w.alloc (.cells (hdC H0) 78)).alloc (.cells (hdC H0) 78)) w') := fun hh => f_codes x (w.heap.size + 1) s hs h4 n15 n1 nsc nrc ncc nwc n31 e15 e1 esc erc ecc ewc e31 v hv false (ff_iff (hno)) ((w.alloc (.cells (hdC H0) 78)).alloc (.cells (hdC H0) 78)) hh;clear e15 e1 esc erc ecc ewc e31 hv
 rotate_left
 focus
  intro x s hs h4 n15 n1 nsc nrc ncc nwc n31 e15 e1 esc erc ecc ewc e31 v hv hyes num k hu zn rn hz hrn hz2 hr2 hk8 hl w hr hL hx4;have KA : Hid (HX x (w.heap.size + 1) s H0 0 ((w.alloc (.cells (hdC H0) 78)).alloc (.cells (hdC H0) 78)) ((w.alloc (.cells (hdC H0) 78)).alloc (.cells (hdC H0) 78)) -> Calls Tryz.prog 94 #[.pointer (some ⟨x, 0, none⟩), .pointer (some ⟨w.heap.size + 1, 0, none⟩)] ((w.alloc (.cells (hdC H0) 78)).alloc (.cells (hdC H0) 78)) fun en w' => en = .returned (.bool true) /\ HX x (w.heap.size + 1) s ⟨v, (nsc : Int), (nrc : Int), (ncc : Int), (nwc : Int), 0, 0, 0⟩ 32 ((w.alloc (.cells (hdC H0) 78)).alloc (.cells (hdC H0) 78)) w') := fun hh => f_codes x (w.heap.size + 1) s hs h4 n15 n1 nsc nrc ncc nwc n31 e15 e1 esc erc ecc ewc e31 v hv true (tt_iff (hyes)) ((w.alloc (.cells (hdC H0) 78)).alloc (.cells (hdC H0) 78)) hh;have KB : Hid (∀ g w0 wx, HX x g s ⟨v, (nsc : Int), (nrc : Int), (ncc : Int), (nwc : Int), 0, 0, 0⟩ 32 w0 wx -> Calls Tryz.prog 95 #[.pointer (some ⟨x, 0, none⟩), .string s, .pointer (some ⟨g, 0, none⟩)] wx fun en w' => en = .returned (.bool true) /\ HX x g s ⟨v, (nsc : Int), (nrc : Int), (ncc : Int), (nwc : Int), (num : Int), 0, 0⟩ (32 + 8 * k) w0 w') := fun g w0 wx hh => f_num_ok x g s hs _ num k h4 hu w0 wx hh;have KD : Hid (∀ g w0 wx, HX x g s ⟨v, (nsc : Int), (nrc : Int), (ncc : Int), (nwc : Int), (num : Int), 0, 0⟩ (32 + 8 * k) w0 wx -> Calls Tryz.prog 96 #[.pointer (some ⟨x, 0, none⟩), .pointer (some ⟨g, 0, none⟩)] wx fun en w' => en = .returned (.bool false) /\ HX x g s ⟨v, (nsc : Int), (nrc : Int), (ncc : Int), (nwc : Int), (num : Int), 0, 0⟩ (32 + 8 * k) w0 w') := fun g w0 wx hh => f_beh_no x g s hs _ (32 + 8 * k) zn rn hz hrn hz2 hr2 hk8 hl w0 wx hh;clear e15 e1 esc erc ecc ewc e31 hv;clear hu hyes hz hrn
 rotate_left
 focus
  intro x s hs h4 n15 n1 nsc nrc ncc nwc n31 e15 e1 esc erc ecc ewc e31 v hv hyes num k hu zn rn hz hrn hz2 hr2 hl hen w hr hL hx4;have KA : Hid (HX x (w.heap.size + 1) s H0 0 ((w.alloc (.cells (hdC H0) 78)).alloc (.cells (hdC H0) 78)) ((w.alloc (.cells (hdC H0) 78)).alloc (.cells (hdC H0) 78)) -> Calls Tryz.prog 94 #[.pointer (some ⟨x, 0, none⟩), .pointer (some ⟨w.heap.size + 1, 0, none⟩)] ((w.alloc (.cells (hdC H0) 78)).alloc (.cells (hdC H0) 78)) fun en w' => en = .returned (.bool true) /\ HX x (w.heap.size + 1) s ⟨v, (nsc : Int), (nrc : Int), (ncc : Int), (nwc : Int), 0, 0, 0⟩ 32 ((w.alloc (.cells (hdC H0) 78)).alloc (.cells (hdC H0) 78)) w') := fun hh => f_codes x (w.heap.size + 1) s hs h4 n15 n1 nsc nrc ncc nwc n31 e15 e1 esc erc ecc ewc e31 v hv true (tt_iff (hyes)) ((w.alloc (.cells (hdC H0) 78)).alloc (.cells (hdC H0) 78)) hh;have KB : Hid (∀ g w0 wx, HX x g s ⟨v, (nsc : Int), (nrc : Int), (ncc : Int), (nwc : Int), 0, 0, 0⟩ 32 w0 wx -> Calls Tryz.prog 95 #[.pointer (some ⟨x, 0, none⟩), .string s, .pointer (some ⟨g, 0, none⟩)] wx fun en w' => en = .returned (.bool true) /\ HX x g s ⟨v, (nsc : Int), (nrc : Int), (ncc : Int), (nwc : Int), (num : Int), 0, 0⟩ (32 + 8 * k) w0 w') := fun g w0 wx hh => f_num_ok x g s hs _ num k h4 hu w0 wx hh;have KD : Hid (∀ g w0 wx, HX x g s ⟨v, (nsc : Int), (nrc : Int), (ncc : Int), (nwc : Int), (num : Int), 0, 0⟩ (32 + 8 * k) w0 wx -> Calls Tryz.prog 96 #[.pointer (some ⟨x, 0, none⟩), .pointer (some ⟨g, 0, none⟩)] wx fun en w' => en = .returned (.bool true) /\ HX x g s ⟨v, (nsc : Int), (nrc : Int), (ncc : Int), (nwc : Int), (num : Int), (bitsAt s (32 + 8 * k) (8 * zn) : Int), (bitsAt s (32 + 8 * k + 8 * zn) (8 * rn) : Int)⟩ (32 + 8 * k + 8 * zn + 8 * rn) w0 w') := fun g w0 wx hh => f_beh_ok x g s hs _ (32 + 8 * k) zn rn hz hrn hz2 hr2 hl w0 wx hh
  have KE : Hid (∀ g w0 wx, HX x g s ⟨v, (nsc : Int), (nrc : Int), (ncc : Int), (nwc : Int), (num : Int), (bitsAt s (32 + 8 * k) (8 * zn) : Int), (bitsAt s (32 + 8 * k + 8 * zn) (8 * rn) : Int)⟩ (32 + 8 * k + 8 * zn + 8 * rn) w0 wx -> Lay wx -> Calls Tryz.prog 97 #[.pointer (some ⟨x, 0, none⟩), .string s, .int .i64 8, .func (.func 63) #[] #[]] wx fun en w' => en = .returned (.bool false) /\ HX x g s ⟨v, (nsc : Int), (nrc : Int), (ncc : Int), (nwc : Int), (num : Int), (bitsAt s (32 + 8 * k) (8 * zn) : Int), (bitsAt s (32 + 8 * k + 8 * zn) (8 * rn) : Int)⟩ (32 + 8 * k + 8 * zn + 8 * rn) w0 w') := fun g w0 wx hh hLx => by
   have hrd := hh.rd;rw [show 32 + 8 * k + 8 * zn + 8 * rn = 8 * (4 + k + zn + rn) by omega] at hrd
   exact (f_sum8_end x s hs (4 + k + zn + rn) (by omega) (by omega) wx hrd).mono fun en w' q => ⟨q.1, hh.low q.2⟩
  generalize bitsAt s (32 + 8 * k) (8 * zn) = bz at *;generalize bitsAt s (32 + 8 * k + 8 * zn) (8 * rn) = br at *;clear e15 e1 esc erc ecc ewc e31 hv;clear hu hyes hz hrn
 rotate_left
 focus
  intro x s hs h4 n15 n1 nsc nrc ncc nwc n31 e15 e1 esc erc ecc ewc e31 v hv hyes num k hu zn rn hz hrn hz2 hr2 hen hc w hr hL hx4;have hl : 32 + 8 * k + 8 * zn + 8 * rn <= 8 * s.size := by omega
  have KA : Hid (HX x (w.heap.size + 1) s H0 0 ((w.alloc (.cells (hdC H0) 78)).alloc (.cells (hdC H0) 78)) ((w.alloc (.cells (hdC H0) 78)).alloc (.cells (hdC H0) 78)) -> Calls Tryz.prog 94 #[.pointer (some ⟨x, 0, none⟩), .pointer (some ⟨w.heap.size + 1, 0, none⟩)] ((w.alloc (.cells (hdC H0) 78)).alloc (.cells (hdC H0) 78)) fun en w' => en = .returned (.bool true) /\ HX x (w.heap.size + 1) s ⟨v, (nsc : Int), (nrc : Int), (ncc : Int), (nwc : Int), 0, 0, 0⟩ 32 ((w.alloc (.cells (hdC H0) 78)).alloc (.cells (hdC H0) 78)) w') := fun hh => f_codes x (w.heap.size + 1) s hs h4 n15 n1 nsc nrc ncc nwc n31 e15 e1 esc erc ecc ewc e31 v hv true (tt_iff (hyes)) ((w.alloc (.cells (hdC H0) 78)).alloc (.cells (hdC H0) 78)) hh;have KB : Hid (∀ g w0 wx, HX x g s ⟨v, (nsc : Int), (nrc : Int), (ncc : Int), (nwc : Int), 0, 0, 0⟩ 32 w0 wx -> Calls Tryz.prog 95 #[.pointer (some ⟨x, 0, none⟩), .string s, .pointer (some ⟨g, 0, none⟩)] wx fun en w' => en = .returned (.bool true) /\ HX x g s ⟨v, (nsc : Int), (nrc : Int), (ncc : Int), (nwc : Int), (num : Int), 0, 0⟩ (32 + 8 * k) w0 w') := fun g w0 wx hh => f_num_ok x g s hs _ num k h4 hu w0 wx hh;have KD : Hid (∀ g w0 wx, HX x g s ⟨v, (nsc : Int), (nrc : Int), (ncc : Int), (nwc : Int), (num : Int), 0, 0⟩ (32 + 8 * k) w0 wx -> Calls Tryz.prog 96 #[.pointer (some ⟨x, 0, none⟩), .pointer (some ⟨g, 0, none⟩)] wx fun en w' => en = .returned (.bool true) /\ HX x g s ⟨v, (nsc : Int), (nrc : Int), (ncc : Int), (nwc : Int), (num : Int), (bitsAt s (32 + 8 * k) (8 * zn) : Int), (bitsAt s (32 + 8 * k + 8 * zn) (8 * rn) : Int)⟩ (32 + 8 * k + 8 * zn + 8 * rn) w0 w') := fun g w0 wx hh => f_beh_ok x g s hs _ (32 + 8 * k) zn rn hz hrn hz2 hr2 hl w0 wx hh
  have KE : Hid (∀ g w0 wx, HX x g s ⟨v, (nsc : Int), (nrc : Int), (ncc : Int), (nwc : Int), (num : Int), (bitsAt s (32 + 8 * k) (8 * zn) : Int), (bitsAt s (32 + 8 * k + 8 * zn) (8 * rn) : Int)⟩ (32 + 8 * k + 8 * zn + 8 * rn) w0 wx -> Lay wx -> Calls Tryz.prog 97 #[.pointer (some ⟨x, 0, none⟩), .string s, .int .i64 8, .func (.func 63) #[] #[]] wx fun en w' => en = .returned (.bool false) /\ HX x g s ⟨v, (nsc : Int), (nrc : Int), (ncc : Int), (nwc : Int), (num : Int), (bitsAt s (32 + 8 * k) (8 * zn) : Int), (bitsAt s (32 + 8 * k + 8 * zn) (8 * rn) : Int)⟩ (32 + 8 * k + 8 * zn + 8 * rn + 8) w0 w') := fun g w0 wx hh hLx => by
   have hrd := hh.rd;rw [show 32 + 8 * k + 8 * zn + 8 * rn = 8 * (4 + k + zn + rn) by omega] at hrd
   refine (f_sum8_no x s hs (4 + k + zn + rn) (by omega) hc wx hrd hLx hx4).mono fun en w' q => ⟨q.1, hh.next (by rw [show 32 + 8 * k + 8 * zn + 8 * rn = 8 * (4 + k + zn + rn) by omega]; exact q.2.1) q.2.2⟩
  generalize bitsAt s (32 + 8 * k) (8 * zn) = bz at *;generalize bitsAt s (32 + 8 * k + 8 * zn) (8 * rn) = br at *;clear e15 e1 esc erc ecc ewc e31 hv;clear hu hyes hz hrn hc
 rotate_left
 focus
  intro x s hs h4 n15 n1 nsc nrc ncc nwc n31 e15 e1 esc erc ecc ewc e31 v hv hyes num k hu zn rn hz hrn hz2 hr2 hen hc w hr hL hx4;have hl : 32 + 8 * k + 8 * zn + 8 * rn <= 8 * s.size := by omega
  have KA : Hid (HX x (w.heap.size + 1) s H0 0 ((w.alloc (.cells (hdC H0) 78)).alloc (.cells (hdC H0) 78)) ((w.alloc (.cells (hdC H0) 78)).alloc (.cells (hdC H0) 78)) -> Calls Tryz.prog 94 #[.pointer (some ⟨x, 0, none⟩), .pointer (some ⟨w.heap.size + 1, 0, none⟩)] ((w.alloc (.cells (hdC H0) 78)).alloc (.cells (hdC H0) 78)) fun en w' => en = .returned (.bool true) /\ HX x (w.heap.size + 1) s ⟨v, (nsc : Int), (nrc : Int), (ncc : Int), (nwc : Int), 0, 0, 0⟩ 32 ((w.alloc (.cells (hdC H0) 78)).alloc (.cells (hdC H0) 78)) w') := fun hh => f_codes x (w.heap.size + 1) s hs h4 n15 n1 nsc nrc ncc nwc n31 e15 e1 esc erc ecc ewc e31 v hv true (tt_iff (hyes)) ((w.alloc (.cells (hdC H0) 78)).alloc (.cells (hdC H0) 78)) hh;have KB : Hid (∀ g w0 wx, HX x g s ⟨v, (nsc : Int), (nrc : Int), (ncc : Int), (nwc : Int), 0, 0, 0⟩ 32 w0 wx -> Calls Tryz.prog 95 #[.pointer (some ⟨x, 0, none⟩), .string s, .pointer (some ⟨g, 0, none⟩)] wx fun en w' => en = .returned (.bool true) /\ HX x g s ⟨v, (nsc : Int), (nrc : Int), (ncc : Int), (nwc : Int), (num : Int), 0, 0⟩ (32 + 8 * k) w0 w') := fun g w0 wx hh => f_num_ok x g s hs _ num k h4 hu w0 wx hh;have KD : Hid (∀ g w0 wx, HX x g s ⟨v, (nsc : Int), (nrc : Int), (ncc : Int), (nwc : Int), (num : Int), 0, 0⟩ (32 + 8 * k) w0 wx -> Calls Tryz.prog 96 #[.pointer (some ⟨x, 0, none⟩), .pointer (some ⟨g, 0, none⟩)] wx fun en w' => en = .returned (.bool true) /\ HX x g s ⟨v, (nsc : Int), (nrc : Int), (ncc : Int), (nwc : Int), (num : Int), (bitsAt s (32 + 8 * k) (8 * zn) : Int), (bitsAt s (32 + 8 * k + 8 * zn) (8 * rn) : Int)⟩ (32 + 8 * k + 8 * zn + 8 * rn) w0 w') := fun g w0 wx hh => f_beh_ok x g s hs _ (32 + 8 * k) zn rn hz hrn hz2 hr2 hl w0 wx hh
  have KE : Hid (∀ g w0 wx, HX x g s ⟨v, (nsc : Int), (nrc : Int), (ncc : Int), (nwc : Int), (num : Int), (bitsAt s (32 + 8 * k) (8 * zn) : Int), (bitsAt s (32 + 8 * k + 8 * zn) (8 * rn) : Int)⟩ (32 + 8 * k + 8 * zn + 8 * rn) w0 wx -> Lay wx -> Calls Tryz.prog 97 #[.pointer (some ⟨x, 0, none⟩), .string s, .int .i64 8, .func (.func 63) #[] #[]] wx fun en w' => en = .returned (.bool true) /\ HX x g s ⟨v, (nsc : Int), (nrc : Int), (ncc : Int), (nwc : Int), (num : Int), (bitsAt s (32 + 8 * k) (8 * zn) : Int), (bitsAt s (32 + 8 * k + 8 * zn) (8 * rn) : Int)⟩ (32 + 8 * k + 8 * zn + 8 * rn + 8) w0 w') := fun g w0 wx hh hLx => by
   have hrd := hh.rd;rw [show 32 + 8 * k + 8 * zn + 8 * rn = 8 * (4 + k + zn + rn) by omega] at hrd
   refine (f_sum8_yes x s hs (4 + k + zn + rn) (by omega) hc wx hrd hLx hx4).mono fun en w' q => ⟨q.1, hh.next (by rw [show 32 + 8 * k + 8 * zn + 8 * rn = 8 * (4 + k + zn + rn) by omega]; exact q.2.1) q.2.2⟩
  generalize bitsAt s (32 + 8 * k) (8 * zn) = bz at *;generalize bitsAt s (32 + 8 * k + 8 * zn) (8 * rn) = br at *;clear e15 e1 esc erc ecc ewc e31 hv;clear hu hyes hz hrn hc
 rotate_left
 all_goals
  have HA : Hid (HX x (w.heap.size + 1) s H0 0 ((w.alloc (.cells (hdC H0) 78)).alloc (.cells (hdC H0) 78)) ((w.alloc (.cells (hdC H0) 78)).alloc (.cells (hdC H0) 78))) := ⟨by
    have h1 : Lo w ((w.alloc (.cells (hdC H0) 78)).alloc (.cells (hdC H0) 78)) := aQ.alloc (by simp) _
    unfold Rd; rw [h1.block _ hr.lt]; exact hr, by
    have hh := heap_alloc_new (w.alloc (.cells (hdC H0) 78)) (.cells (hdC H0) 78);rw [show (w.alloc (.cells (hdC H0) 78)).heap.size = w.heap.size + 1 from by simp] at hh
    exact hh, by have := hr.lt; omega, Stays.refl _ _⟩
  have HZ : Hid (((w.alloc (.cells (hdC H0) 78)).alloc (.cells (hdC H0) 78)).heap[w.heap.size]? = some (.cells (hdC H0) 78 (0, 0))) := heap_two _ _ _;have HW : Hid (Lo w ((w.alloc (.cells (hdC H0) 78)).alloc (.cells (hdC H0) 78))) := aQ.alloc (by simp) _
  have HL : Hid (∀ wx, Stays (two x (w.heap.size + 1)) ((w.alloc (.cells (hdC H0) 78)).alloc (.cells (hdC H0) 78)) wx -> Lay wx) := fun wx hst => Lay.two (hL.below (aQ.alloc (by simp) _)) hst hx4 (by have := hL.size4; omega)
  have hxl := hr.lt;clear hr hL;go_enter Tryz.func43, Tryz.ntmps43
  go_upto_region 2 with fail
  generalize World.alloc _ _ = wa at *;generalize hg : w.heap.size + 1 = g at *;have hgw : w.heap.size < g := by omega
  clear hg
  go_wp2_with fail
  refine (KA.out HA.out).mono ?_;rintro en w1 ⟨rfl, hq⟩;have H1 : Hid _ := hq;clear hq KA HA
 focus
  have HS : Hid (Stays (only x) w w1) := by
   refine Stays.trans (Stays.of_below HW.out (only x)) H1.out.st (fun k hk hkk => ?_);have e2 : k = x ∨ k = g := hkk;show k = x;omega
  have hz : w1.heap[w.heap.size]? = some (.cells (hdC H0) 78 (0, 0)) := by
   rw [H1.out.st.block _ (lt_of_block HZ.out) (fun e => by have e2 : w.heap.size = x ∨ w.heap.size = g := e; omega)]; exact HZ.out
 rotate_left
 focus
  have HS : Hid (Stays (only x) w w1) := by
   refine Stays.trans (Stays.of_below HW.out (only x)) H1.out.st (fun k hk hkk => ?_);have e2 : k = x ∨ k = g := hkk;show k = x;omega
  have hz : w1.heap[w.heap.size]? = some (.cells (hdC H0) 78 (0, 0)) := by
   rw [H1.out.st.block _ (lt_of_block HZ.out) (fun e => by have e2 : w.heap.size = x ∨ w.heap.size = g := e; omega)]; exact HZ.out
 rotate_left
 focus
  go_wp2_with fail
  refine (KB.out _ _ _ H1.out).mono ?_;rintro en w2 ⟨rfl, hq⟩;have H2 : Hid _ := hq;clear hq KB H1
  go_wp2_with fail
  refine (KD.out _ _ _ H2.out).mono ?_;rintro en w3 ⟨rfl, hq⟩;have H3 : Hid _ := hq;clear hq KD H2
  have HS : Hid (Stays (only x) w w3) := by
   refine Stays.trans (Stays.of_below HW.out (only x)) H3.out.st (fun k hk hkk => ?_);have e2 : k = x ∨ k = g := hkk;show k = x;omega
  have hz : w3.heap[w.heap.size]? = some (.cells (hdC H0) 78 (0, 0)) := by
   rw [H3.out.st.block _ (lt_of_block HZ.out) (fun e => by have e2 : w.heap.size = x ∨ w.heap.size = g := e; omega)]; exact HZ.out
 rotate_left
 focus
  go_wp2_with fail
  refine (KB.out _ _ _ H1.out).mono ?_;rintro en w2 ⟨rfl, hq⟩;have H2 : Hid _ := hq;clear hq KB H1
  go_wp2_with fail
  refine (KD.out _ _ _ H2.out).mono ?_;rintro en w3 ⟨rfl, hq⟩;have H3 : Hid _ := hq;clear hq KD H2
  go_wp2_with fail
  refine (KE.out _ _ _ H3.out (HL.out _ H3.out.st)).mono ?_;rintro en w4 ⟨rfl, hq⟩;have H4 : Hid _ := hq;clear hq KE H3
  have HS : Hid (Stays (only x) w w4) := by
   refine Stays.trans (Stays.of_below HW.out (only x)) H4.out.st (fun k hk hkk => ?_);have e2 : k = x ∨ k = g := hkk;show k = x;omega
  have hz : w4.heap[w.heap.size]? = some (.cells (hdC H0) 78 (0, 0)) := by
   rw [H4.out.st.block _ (lt_of_block HZ.out) (fun e => by have e2 : w.heap.size = x ∨ w.heap.size = g := e; omega)]; exact HZ.out
 rotate_left
 focus
  go_wp2_with fail
  refine (KB.out _ _ _ H1.out).mono ?_;rintro en w2 ⟨rfl, hq⟩;have H2 : Hid _ := hq;clear hq KB H1
  go_wp2_with fail
  refine (KD.out _ _ _ H2.out).mono ?_;rintro en w3 ⟨rfl, hq⟩;have H3 : Hid _ := hq;clear hq KD H2
  go_wp2_with fail
  refine (KE.out _ _ _ H3.out (HL.out _ H3.out.st)).mono ?_;rintro en w4 ⟨rfl, hq⟩;have H4 : Hid _ := hq;clear hq KE H3
  have HS : Hid (Stays (only x) w w4) := by
   refine Stays.trans (Stays.of_below HW.out (only x)) H4.out.st (fun k hk hkk => ?_);have e2 : k = x ∨ k = g := hkk;show k = x;omega
  have hz : w4.heap[w.heap.size]? = some (.cells (hdC H0) 78 (0, 0)) := by
   rw [H4.out.st.block _ (lt_of_block HZ.out) (fun e => by have e2 : w.heap.size = x ∨ w.heap.size = g := e; omega)]; exact HZ.out
 rotate_left
 ·go_wp2_with fail
  refine (KB.out _ _ _ H1.out).mono ?_;rintro en w2 ⟨rfl, hq⟩;have H2 : Hid _ := hq;clear hq KB H1
  go_wp2_with fail
  refine (KD.out _ _ _ H2.out).mono ?_;rintro en w3 ⟨rfl, hq⟩;have H3 : Hid _ := hq;clear hq KD H2
  go_wp2_with fail
  refine (KE.out _ _ _ H3.out (HL.out _ H3.out.st)).mono ?_;rintro en w4 ⟨rfl, hq⟩;have H4 : Hid _ := hq;clear hq KE H3
  have HS : Hid (Stays (only x) w w4) := by
   refine Stays.trans (Stays.of_below HW.out (only x)) H4.out.st (fun k hk hkk => ?_);have e2 : k = x ∨ k = g := hkk;show k = x;omega
  have hz : w4.heap[w.heap.size]? = some (.cells (hdC H0) 78 (0, 0)) := by
   rw [H4.out.st.block _ (lt_of_block HZ.out) (fun e => by have e2 : w.heap.size = x ∨ w.heap.size = g := e; omega)]; exact HZ.out
  have hcz := hd_cells hz;obtain ⟨y0, y1, y2, y3, y4, y5, y6, y7⟩ := hcz;have fz := fun o => row_frozen hz o;have f0 := fz 0;have f1 := fz 1;have f2 := fz 2;have f3 := fz 3;have f4 := fz 4;have f5 := fz 5;have f6 := fz 6;have f7 := fz 7;clear fz;obtain ⟨z0, z1, z2, z3, z4, z5, z6, z7⟩ := H4.out.cells
  go_wp2_with fail
  generalize hwf : World.setCell _ _ _ = wf;have hH : wf.heap[w.heap.size]? = some (.cells (hdC ⟨v, (nsc : Int), (nrc : Int), (ncc : Int), (nwc : Int), (num : Int), (bz : Int), (br : Int)⟩) 78 (0, 0)) := by rw [<- hwf]; exact set8_a _ _ _ _ _ _ _ _ _ hz
  have hS : Stays (only x) w wf := by rw [<- hwf]; exact set8_c _ _ _ _ _ _ _ _ _ _ _ (Or.inr (Nat.le_refl _)) HS.out
  have hR : Rd wf x s (32 + 8 * k + 8 * zn + 8 * rn + 8) := by
   have h := H4.out.rd;unfold Rd at h ⊢;rw [<- hwf, set8_d _ _ _ _ _ _ _ _ _ _ (by omega)]; exact h
  refine bodyPost_ret (v := .tuple #[.agg (hdC ⟨v, (nsc : Int), (nrc : Int), (ncc : Int), (nwc : Int), (num : Int), (bz : Int), (br : Int)⟩), .bool true]) ?_ rfl ⟨rfl, hR, hS⟩;rw [results_two rfl];have hld := run_loadVar_row (P := Tryz.prog) (wf) (w.heap.size) 78 78 (hdC ⟨v, (nsc : Int), (nrc : Int), (ncc : Int), (nwc : Int), (num : Int), (bz : Int), (br : Int)⟩) (0, 0) _ hH Tryz.underlying78 rfl info_head;simp [asAddr, Result.andThen, hld]
 all_goals
  have hcz := hd_cells hz;obtain ⟨y0, y1, y2, y3, y4, y5, y6, y7⟩ := hcz;have fz := fun o => row_frozen hz o;have f0 := fz 0;have f1 := fz 1;have f2 := fz 2;have f3 := fz 3;have f4 := fz 4;have f5 := fz 5;have f6 := fz 6;have f7 := fz 7;clear fz
  go_wp2_with fail
  generalize hwf : World.setCell _ _ _ = wf;have hH : wf.heap[w.heap.size]? = some (.cells (hdC H0) 78 (0, 0)) := by rw [<- hwf]; exact set8_a _ _ _ _ _ _ _ _ _ hz
  have hS : Stays (only x) w wf := by rw [<- hwf]; exact set8_c _ _ _ _ _ _ _ _ _ _ _ (Or.inr (Nat.le_refl _)) HS.out
  refine bodyPost_ret (v := .tuple #[.agg (hdC H0), .bool false]) ?_ rfl ⟨rfl, hS⟩;rw [results_two rfl];have hld := run_loadVar_row (P := Tryz.prog) (wf) (w.heap.size) 78 78 (hdC H0) (0, 0) _ hH Tryz.underlying78 rfl info_head;simp [asAddr, Result.andThen, hld]
end Go.Proofs.YtfpfabmbipmipaaGreatDoor
