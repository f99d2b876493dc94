/- Own text. -/
import Derived.Test.YtfpfabmbipmipaaGreatDoorB22
set_option linter.unusedSimpArgs false
set_option linter.unusedVariables false
set_option maxRecDepth 20000
set_option maxHeartbeats 12800000
namespace Go.Proofs.YtfpfabmbipmipaaGreatDoor
open Go.RowKit
theorem Made.of_blk {w wx : World} {g : Nat} {cap : Nat} {L : List Int} (h : IntsBlk wx g L) (hg : w.heap.size <= g) (hb : Lo w wx) (hc : L.length <= cap) (hl : L.length <= 17592186044415) (hn : Rng L) : Made w (some ⟨g, 0, none⟩) cap L wx :=
 ⟨⟨g, rfl, hg, _, h, fun j hj => by
  rw [List.getElem?_toArray]
  unfold intsC
  rw [List.getElem?_map, List.getElem?_eq_getElem hj, List.getD_eq_getElem?_getD, List.getElem?_eq_getElem hj]
  rfl⟩, hc, hl, hn, hb⟩
theorem intsC_rep (n : Nat) (c : Int) : intsC (List.replicate n c) = List.replicate n (.int .i64 c) := by simp [intsC]
theorem rep_copy (c : Int) (b n m g : Nat) (hm : m = Nat.min n (b - n)) (hn : n < b) (w wx : World) (hg : w.heap.size <= g) (hB : Lo w wx) (h : IntsBlk wx g (List.replicate n c ++ List.replicate (b - n) 0)) :
  ∃ w', (Builtin.copy_ #[56, 56] 3 #[.slice (some ⟨g, n, none⟩) (b - n) (b - n), .slice (some ⟨g, 0, none⟩) n b]).run Tryz.prog wx = .ok (goInt m) w' /\ IntsBlk w' g (List.replicate (n + m) c ++ List.replicate (b - (n + m)) 0) /\ Lo w w' := by
 have hs : (Tryz.prog.info? 3).map (·.size) = some 1 := by kernel_rfl
 have hmn : m <= n := by rw [hm]; exact Nat.min_le_left _ _
 have hmb : m <= b - n := by rw [hm]; exact Nat.min_le_right _ _
 have hsz : (intsC (List.replicate n c ++ List.replicate (b - n) 0)).toArray.size = b := by
  rw [List.size_toArray, intsC_length, List.length_append, List.length_replicate, List.length_replicate]; omega
 have hrun := run_copy_row (P := Tryz.prog) wx 56 56 3 3 g n (b - n) (b - n) ⟨g, 0, none⟩ n b _ 3 (List.replicate m (.int .i64 c)) undI3 hs h (by rw [List.length_replicate]; exact hm) (fun j v hj => by
  rw [List.getElem?_replicate] at hj
  split at hj
  ·cases hj
   rw [Addr.add_mid, Nat.zero_add, h.cell j (by rw [List.length_append, List.length_replicate]; omega), List.getD_eq_getElem?_getD, List.getElem?_append_left (by rw [List.length_replicate]; omega), List.getElem?_replicate, if_pos (by omega)]
   rfl
  ·cases hj) (by rw [List.length_replicate, hsz]; omega) (fun v hv => by rw [(List.mem_replicate.1 hv).2]; rfl)
 rw [List.length_replicate] at hrun
 refine ⟨_, hrun, ?_, ?_⟩
 ·have el : (intsC (List.replicate n c ++ List.replicate (b - n) 0)).take n ++ List.replicate m (Value.int .i64 c) ++ (intsC (List.replicate n c ++ List.replicate (b - n) 0)).drop (n + m) = intsC (List.replicate (n + m) c ++ List.replicate (b - (n + m)) 0) := by
   rw [intsC_append, intsC_append, intsC_rep, intsC_rep, intsC_rep, intsC_rep]
   rw [List.take_append_of_le_length (by rw [List.length_replicate]; omega), List.take_of_length_le (by rw [List.length_replicate]; omega), List.drop_append, List.drop_of_length_le (by rw [List.length_replicate]; omega), List.length_replicate, List.drop_replicate, List.replicate_append_replicate, List.nil_append, show b - n - (n + m - n) = b - (n + m) by omega]
  have h2 := setRow_heap wx g _ (intsC (List.replicate (n + m) c ++ List.replicate (b - (n + m)) 0)).toArray 3 (0, 0) h
  unfold IntsBlk
  rw [<- h2, <- el]
 ·exact ⟨hB.os, hB.tape, hB.output, by rw [size_setRow]; exact hB.size, fun k hk => by rw [setRow_other _ _ _ _ (by omega)]; exact hB.block k hk⟩
theorem one_copy (c : Int) (b : Nat) (hb : 1 <= b) (fa : OA) (fc : Nat) (w : World) (hf : IntsAt w fa [c]) :
  ∃ w', (Builtin.copy_ #[56, 56] 3 #[.slice (some ⟨w.heap.size, 0, none⟩) b b, .slice fa 1 fc]).run Tryz.prog (w.alloc (.cells (madeCells #[.int .i64 0] b) 3)) = .ok (goInt 1) w' /\ IntsBlk w' w.heap.size (List.replicate 1 c ++ List.replicate (b - 1) 0) /\ Lo w w' := by
 have hs : (Tryz.prog.info? 3).map (·.size) = some 1 := by kernel_rfl
 have hB : Lo w (w.alloc (.cells (madeCells #[.int .i64 0] b) 3)) := aQ
 have hW := hf.below hB
 have hg := heap_alloc_new w (.cells (madeCells #[.int .i64 0] b) 3)
 have hmc : madeCells #[.int .i64 0] b = (intsC (List.replicate b 0)).toArray := by
  rw [intsC_rep]
  apply Array.ext_getElem?
  intro j
  have hr : (List.replicate b (Value.int .i64 0)).toArray[j]? = if j < b then some (Value.int .i64 0) else none := by
   rw [List.getElem?_toArray, List.getElem?_replicate]
  rw [hr]
  by_cases hj : j < b
  ·rw [if_pos hj]
   simp only [madeCells, Array.getElem?_map, Array.getElem?_range, hj, if_true, Option.map_some]
   have hs1 : (#[.int .i64 0] : Array Value).size = 1 := rfl
   rw [hs1, Nat.mod_one]
   rfl
  ·rw [if_neg hj, Array.getElem?_eq_none (by rw [size_madeCells]; omega)]
 rw [hmc] at hg hB hW ⊢
 obtain ⟨b1, off, rfl⟩ := hW.addr (by simp)
 generalize w.alloc (.cells (intsC (List.replicate b 0)).toArray 3) = w1 at *
 have hrun := run_copy_row (P := Tryz.prog) w1 56 56 3 3 w.heap.size 0 b b ⟨b1, off, none⟩ 1 fc _ 3 (intsC [c]) undI3 hs hg (by rw [intsC_length]; show 1 = Nat.min 1 b; exact (Nat.min_eq_left hb).symm) (hW.news _ rfl) (by rw [intsC_length, List.size_toArray, intsC_length, List.length_replicate]; simp; omega) (intsC_one [c])
 rw [intsC_length] at hrun
 refine ⟨_, hrun, ?_, ?_⟩
 ·have el : (intsC (List.replicate b 0)).take 0 ++ intsC [c] ++ (intsC (List.replicate b 0)).drop (0 + [c].length) = intsC (List.replicate 1 c ++ List.replicate (b - 1) 0) := by
   rw [intsC_append, intsC_rep, intsC_rep, intsC_rep, List.take_zero, List.nil_append, List.drop_replicate]
   rfl
  have h2 := setRow_heap w1 w.heap.size _ (intsC (List.replicate 1 c ++ List.replicate (b - 1) 0)).toArray 3 (0, 0) hg
  unfold IntsBlk
  rw [<- h2, <- el]
 ·exact ⟨hB.os, hB.tape, hB.output, by rw [size_setRow]; exact hB.size, fun k hk => by rw [setRow_other _ _ _ _ (by omega)]; exact hB.block k hk⟩
theorem s_mul64 (b : Nat) (hb : b <= 65535) (w : World) : Calls Tryz.prog 221 #[.int .u64 1, .int .u64 (b : Int)] w fun e w' => e = .returned (.tuple #[.int .u64 0, .int .u64 (b : Int)]) /\ w' = w := by
 have hm := mask_u64 b 32 (by omega) (by decide)
 have hmm : IntKind.u64.wrap (IntKind.u64.wrap (2 ^ 32) - 1) = 4294967295 := by decide
 rw [hmm, show b % 2 ^ 32 = b from Nat.mod_eq_of_lt (by omega)] at hm
 have hm1 : bits BinOp.and IntKind.u64 1 4294967295 = 1 := by decide
 have hm0 : bits BinOp.and IntKind.u64 0 4294967295 = 0 := by decide
 have hs : (b : Int) / 4294967296 = 0 := Int.ediv_eq_zero_of_lt (by omega) (by omega)
 have hs2 : (b : Int) / 2 ^ 32 = 0 := hs
 go_enter Tryz.func221, Tryz.ntmps221
 go_wp2_with fail
 go_ret2
 exact ⟨rfl, rfl⟩
theorem s_mul (b : Nat) (hb : b <= 65535) (w : World) : Calls Tryz.prog 200 #[.int .u64 1, .int .u64 (b : Int)] w fun e w' => e = .returned (.tuple #[.int .u64 0, .int .u64 (b : Int)]) /\ w' = w := by
 have km := s_mul64 b hb w
 go_enter Tryz.func200, Tryz.ntmps200
 go_wp2_with fail
 refine km.mono ?_
 rintro e w2 ⟨rfl, hw2⟩
 subst hw2
 go_wp2_with fail
 go_ret2
 exact ⟨rfl, rfl⟩
theorem s_repeat (c : Int) (b : Nat) (hb1 : 1 <= b) (hb2 : b <= 65535) (fa : OA) (fc : Nat) (w : World) (hf : IntsAt w fa [c]) : Calls Tryz.prog 180 #[.slice fa 1 fc, .int .i64 (b : Int)] w fun e w' => ∃ ga gc, e = .returned (.slice ga (List.replicate b c).length gc) /\ Made w ga gc (List.replicate b c) w' := by
 have km := s_mul b hb2 w
 have hmk := make_ints b (by omega)
 obtain ⟨w2, hcp, hbk, hbl⟩ := one_copy c b hb1 fa fc w hf
 have HB2 : Hid (IntsBlk w2 w.heap.size (List.replicate 1 c ++ List.replicate (b - 1) 0) /\ Lo w w2) := ⟨hbk, hbl⟩
 have HRG : Hid (Rng (List.replicate b c)) := fun x hx => by rw [(List.mem_replicate.1 hx).2]; exact hf.num c (by simp)
 have hgi : goInt 1 = .int .i64 1 := rfl
 rw [List.length_replicate]
 clear hf hbk hbl
 go_enter Tryz.func180, Tryz.ntmps180
 go_wp2_with fail
 refine km.mono ?_
 rintro e w1 ⟨rfl, hw1⟩
 subst hw1
 clear km
 go_wp2_with fail
 clear hmk hcp
 go_loopw [8] (fun s8 wr => ∃ n : Nat, 1 <= n /\ n <= b /\ s8 = .int .i64 (n : Int) /\ IntsBlk wr w1.heap.size (List.replicate n c ++ List.replicate (b - n) 0) /\ Lo w1 wr) (fun s8 _ => b - (intOf s8).toNat)
 case atStart => exact ⟨1, Nat.le_refl _, hb1, rfl, HB2.out.1, HB2.out.2⟩
 case round =>
  clear HB2
  obtain ⟨n, hn1, hn2, rfl, hbk, hbl⟩ := hrel
  by_cases hlt : n < b
  ·obtain ⟨m, hm⟩ : ∃ m, m = Nat.min n (b - n) := ⟨_, rfl⟩
   have hmn : m <= n := by rw [hm]; exact Nat.min_le_left _ _
   have hmb : m <= b - n := by rw [hm]; exact Nat.min_le_right _ _
   have hm1 : 1 <= m := by rw [hm]; exact Nat.le_min.2 ⟨hn1, by omega⟩
   have hbd : Lo w1 wr.drew := hbl.trans dQ
   obtain ⟨w3, hcp, hbk3, hbl3⟩ := rep_copy c b n m w1.heap.size hm hlt w1 wr.drew (Nat.le_refl _) hbd hbk
   have HD := kQ hbd
   have HW3 : Hid (IntsBlk w3 w1.heap.size (List.replicate (n + m) c ++ List.replicate (b - (n + m)) 0) /\ Lo w1 w3) := ⟨hbk3, hbl3⟩
   have hgm : goInt m = .int .i64 (m : Int) := rfl
   obtain ⟨nm, hnm⟩ : ∃ x, x = n + m := ⟨_, rfl⟩
   have hsum : (n : Int) + (m : Int) = (nm : Int) := by omega
   have hne : ¬ b = n := by omega
   have hnb : (n : Int) <= (b : Int) := by omega
   have hbn : (b : Int) - (n : Int) = ((b - n : Nat) : Int) := by omega
   rw [<- hnm] at HW3
   have hnmb : nm <= b := by omega
   have HNM : Hid (n < nm /\ nm <= b) := ⟨by omega, by omega⟩
   clear hbk hbl hbd hbk3 hbl3 hm hmn hmb hm1 hnm
   go_wp2_with fail
   refine wp_region_held_drew (S := fun wx => Lo w1 wx) (by kernel_rfl) (HD.out) (fun hS => ?_)
   refine vQ 0 (.int .i64 (n : Int)) hS ?_
   simp only [SL]
   refine vQ 1 (.slice (some ⟨w1.heap.size, 0, none⟩) b b) hS ?_
   simp only [SL]
   refine vQ 2 (.int .i64 (n : Int)) hS ?_
   simp only [SL]
   refine vQ 3 (.slice (some ⟨w1.heap.size, n, none⟩) (b - n) (b - n)) hS ?_
   simp only [SL]
   refine vQ 4 (.slice (some ⟨w1.heap.size, 0, none⟩) b b) hS ?_
   simp only [SL]
   refine vQ 5 (.int .i64 (n : Int)) hS ?_
   simp only [SL]
   refine vQ 6 (.slice (some ⟨w1.heap.size, 0, none⟩) n b) hS ?_
   simp only [SL]
   refine wpAnyH_ready (rs := [7]) (by kernel_rfl) (by simp) ?_
   refine AllReadyH.cons rfl (fun K hK => ?_) AllReadyH.nil
   go_simp
   refine hK.out _ _ HW3.out.2 (fun hS3 => ?_)
   clear hK K
   try simp only [SL]
   refine uQ 8 (.int .i64 (nm : Int)) rfl hS3 (Or.inl ⟨by rfl, fun w hSw => by go_simp; rw [IntKind.wrap_i64]; omega⟩) ?_
   simp only [SL]
   refine vQ 9 (.int .i64 (nm : Int)) hS3 ?_
   simp only [SL]
   refine wpAnyH_done (by kernel_rfl) ?_ _
   go_wp2_with fail
   go_roundw
   case rel => exact ⟨nm, by have := HNM.out; omega, HNM.out.2, rfl, HW3.out.1, HW3.out.2⟩
   case measure => have := HNM.out; simp [intOf]; omega
  ·have hnb : n = b := by omega
   subst hnb
   have HM : Hid (Made w1 (some ⟨w1.heap.size, 0, none⟩) n (List.replicate n c) wr) := by
    rw [Nat.sub_self, List.replicate_zero, List.append_nil] at hbk
    exact Made.of_blk hbk (Nat.le_refl _) hbl (by rw [List.length_replicate]; exact Nat.le_refl _) (by rw [List.length_replicate]; omega) HRG.out
   clear hbk hbl
   go_wp2_with fail
   go_ret
   exact ⟨_, _, rfl, HM.out⟩
theorem set10_a {wx : World} (n : Nat) (v0 v1 v2 v3 v4 v5 v6 v7 v8 v9 : Value) {a0 a1 a2 a3 a4 a5 a6 a7 a8 a9 : Value} {t : TypeId} (h : wx.heap[n]? = some (.cells #[a0, a1, a2, a3, a4, a5, a6, a7, a8, a9] t (0, 0))) : ((((((((((wx.setCell ⟨n, 0, none⟩ v0).setCell ⟨n, 1, none⟩ v1).setCell ⟨n, 2, none⟩ v2).setCell ⟨n, 3, none⟩ v3).setCell ⟨n, 4, none⟩ v4).setCell ⟨n, 5, none⟩ v5).setCell ⟨n, 6, none⟩ v6).setCell ⟨n, 7, none⟩ v7).setCell ⟨n, 8, none⟩ v8).setCell ⟨n, 9, none⟩ v9).heap[n]? = some (.cells #[v0, v1, v2, v3, v4, v5, v6, v7, v8, v9] t (0, 0)) := by
 rw [block_setCell _ _ _ _ _ _ (block_setCell _ _ _ _ _ _ (block_setCell _ _ _ _ _ _ (block_setCell _ _ _ _ _ _ (block_setCell _ _ _ _ _ _ (block_setCell _ _ _ _ _ _ (block_setCell _ _ _ _ _ _ (block_setCell _ _ _ _ _ _ (block_setCell _ _ _ _ _ _ (block_setCell _ _ _ _ _ _ h)))))))))]
 simp only [List.setIfInBounds_toArray, List.set_cons_zero, List.set_cons_succ]
theorem set10_c {wx : World} (n : Nat) (v0 v1 v2 v3 v4 v5 v6 v7 v8 v9 : Value) (w : World) (S : Nat -> Prop) (hn : S n ∨ w.heap.size <= n) (h : Stays S w wx) : Stays S w ((((((((((wx.setCell ⟨n, 0, none⟩ v0).setCell ⟨n, 1, none⟩ v1).setCell ⟨n, 2, none⟩ v2).setCell ⟨n, 3, none⟩ v3).setCell ⟨n, 4, none⟩ v4).setCell ⟨n, 5, none⟩ v5).setCell ⟨n, 6, none⟩ v6).setCell ⟨n, 7, none⟩ v7).setCell ⟨n, 8, none⟩ v8).setCell ⟨n, 9, none⟩ v9) :=
 (((((((((h.setCell _ _ hn).setCell _ _ hn).setCell _ _ hn).setCell _ _ hn).setCell _ _ hn).setCell _ _ hn).setCell _ _ hn).setCell _ _ hn).setCell _ _ hn).setCell _ _ hn
theorem set10_b {wx : World} (n : Nat) (v0 v1 v2 v3 v4 v5 v6 v7 v8 v9 : Value) (w : World) (hn : w.heap.size <= n) (h : Lo w wx) : Lo w ((((((((((wx.setCell ⟨n, 0, none⟩ v0).setCell ⟨n, 1, none⟩ v1).setCell ⟨n, 2, none⟩ v2).setCell ⟨n, 3, none⟩ v3).setCell ⟨n, 4, none⟩ v4).setCell ⟨n, 5, none⟩ v5).setCell ⟨n, 6, none⟩ v6).setCell ⟨n, 7, none⟩ v7).setCell ⟨n, 8, none⟩ v8).setCell ⟨n, 9, none⟩ v9) :=
 (((((((((h.setCell hn _).setCell hn _).setCell hn _).setCell hn _).setCell hn _).setCell hn _).setCell hn _).setCell hn _).setCell hn _).setCell hn _
theorem set10_d {wx : World} (n : Nat) (v0 v1 v2 v3 v4 v5 v6 v7 v8 v9 : Value) (j : Nat) (h0 : j ≠ n) : ((((((((((wx.setCell ⟨n, 0, none⟩ v0).setCell ⟨n, 1, none⟩ v1).setCell ⟨n, 2, none⟩ v2).setCell ⟨n, 3, none⟩ v3).setCell ⟨n, 4, none⟩ v4).setCell ⟨n, 5, none⟩ v5).setCell ⟨n, 6, none⟩ v6).setCell ⟨n, 7, none⟩ v7).setCell ⟨n, 8, none⟩ v8).setCell ⟨n, 9, none⟩ v9).heap[j]? = wx.heap[j]? := by
 rw [Below.heap_setCell _ _ _ j h0, Below.heap_setCell _ _ _ j h0, Below.heap_setCell _ _ _ j h0, Below.heap_setCell _ _ _ j h0, Below.heap_setCell _ _ _ j h0, Below.heap_setCell _ _ _ j h0, Below.heap_setCell _ _ _ j h0, Below.heap_setCell _ _ _ j h0, Below.heap_setCell _ _ _ j h0, Below.heap_setCell _ _ _ j h0]
theorem row_frozen {w : World} {g : Nat} {cs : Array Value} {t : TypeId} (h : w.heap[g]? = some (.cells cs t (0, 0))) (i : Nat) : w.frozen? ⟨g, i, none⟩ = false := by simp [World.frozen?, h]
theorem info_Sub : (Tryz.prog.info? 67).map (·.size) = some 10 := by kernel_rfl
def OPost {α : Type} (R : Option α) (no : Prop) (yes : α -> Prop) : Prop := match R with
 | none => no
 | some x => yes x
theorem OPost.none_ {α : Type} {R : Option α} {no : Prop} {yes : α -> Prop} (h : R = none) (hn : no) : OPost R no yes := by rw [h]; exact hn
theorem OPost.some_ {α : Type} {R : Option α} {no : Prop} {yes : α -> Prop} {x : α} (h : R = some x) (hn : yes x) : OPost R no yes := by rw [h]; exact hn
theorem s_num (x : Nat) (s : ByteArray) (hs : s.size <= 1000000000000000000) (a : Nat) (ha : a <= 8 * s.size) (k : Int) (k0 : 0 <= k) (k1 : k <= 31) (w : World) (h : Rd w x s a) :
  Calls Tryz.prog 176 #[.pointer (some ⟨x, 0, none⟩), .int .i64 k] w fun en w' => en = .returned (.tuple #[.int .i64 (getV s a k), .bool (getE s a k == 0)]) /\ Rd w' x s (getA s a k) /\ Stays (only x) w w' := by
 have kg := get_all s hs a ha w x k h
 obtain ⟨v0, v1⟩ := getV_bound s a k
 have v2 : getV s a k <= 4294967296 := by
  have hp : (2 : Int) ^ k.toNat <= 2 ^ 31 := by
   have e1 : ((2 ^ k.toNat : Nat) : Int) = 2 ^ k.toNat := by simp
   have e2 : (2 : Nat) ^ k.toNat <= 2 ^ 31 := Nat.pow_le_pow_right (by decide) (by omega)
   have e3 : (2 : Nat) ^ 31 = 2147483648 := by decide
   rw [<- e1]
   have e4 : (2 : Int) ^ 31 = 2147483648 := by decide
   omega
  have e4 : (2 : Int) ^ 31 = 2147483648 := by decide
  omega
 clear v1
 generalize getV s a k = v at *
 generalize getE s a k = ev at *
 go_enter Tryz.func176, Tryz.ntmps176
 go_wp2_with fail
 refine kg.mono ?_
 rintro e w2 ⟨rfl, h2, h3⟩
 have HH : Hid (Rd w2 x s (getA s a k) /\ Stays (only x) w w2) := ⟨h2, h3⟩
 clear h2 h3 kg
 go_wp2_with fail
 go_ret2
 exact ⟨rfl, HH.out⟩
def wst (s : ByteArray) (a : Nat) : Option (Int × Nat) :=
 if getE s a 1 = 0 then (if getV s a 1 = 1 then (if unaE s (getA s a 1) = 0 then some (unaV s (getA s a 1) + 1, unaA s (getA s a 1)) else none) else some (0, getA s a 1)) else none
theorem unaV_top (s : ByteArray) (a : Nat) : unaV s a <= 16777216 := by
 unfold unaV
 split
 ·rename_i h
  unfold unaE at h
  split at h
  ·cases h
  ·omega
 ·decide
theorem wst_rng {s : ByteArray} {a : Nat} {n : Int} {a1 : Nat} (h : wst s a = some (n, a1)) (ha : a <= 8 * s.size) : 0 <= n /\ n <= 16777217 /\ a1 <= 8 * s.size := by
 have g1 := getA_le s a 1 ha
 unfold wst at h
 split at h
 ·split at h
  ·split at h
   ·cases h
    have := unaV_pos s (getA s a 1)
    have := unaV_top s (getA s a 1)
    exact ⟨by omega, by omega, unaA_le _ _ g1⟩
   ·cases h
  ·cases h; exact ⟨by omega, by omega, g1⟩
 ·cases h
theorem s_wasted (x : Nat) (s : ByteArray) (hs : s.size <= 1000000000000000000) (a : Nat) (ha : a <= 8 * s.size) (w : World) (h : Rd w x s a) :
  Calls Tryz.prog 178 #[.pointer (some ⟨x, 0, none⟩)] w fun e w' => Stays (only x) w w' /\ OPost (wst s a) (∃ n, e = .returned (.tuple #[.int .i64 n, .bool false])) (fun p => e = .returned (.tuple #[.int .i64 p.1, .bool true]) /\ Rd w' x s p.2) := by
 have kn := s_num x s hs a ha 1 (by decide) (by decide) w h
 have g1 := getA_le s a 1 ha
 obtain ⟨v0, v1⟩ := getV_1 s a
 clear h
 by_cases hE : getE s a 1 = 0
 focus
  have hEb : (getE s a 1 == 0) = true := by rw [beq_iff_eq]; exact hE
  rw [hEb] at kn
  by_cases hV : getV s a 1 = 1
  focus
   have KU : Hid (∀ wx, Rd wx x s (getA s a 1) -> Calls Tryz.prog 198 #[.pointer (some ⟨x, 0, none⟩)] wx fun e w' => e = .returned (.tuple #[.int .i64 (unaV s (getA s a 1)), .int .i64 (unaE s (getA s a 1))]) /\ Rd w' x s (unaA s (getA s a 1)) /\ Stays (only x) wx w') := fun wx hh => unary_all s hs (getA s a 1) g1 wx x hh
   have u0 := unaV_pos s (getA s a 1)
   have u1 := unaV_top s (getA s a 1)
   have HWS : Hid (wst s a = if unaE s (getA s a 1) = 0 then some (unaV s (getA s a 1) + 1, unaA s (getA s a 1)) else none) := by show _ = _; unfold wst; rw [if_pos hE, if_pos hV]
   rw [hV] at kn
   clear hE hV hEb v0 v1
   generalize getA s a 1 = a1 at *
   by_cases hU : unaE s a1 = 0
   focus
    rw [if_pos hU] at HWS
    rw [hU] at KU
    clear hU
    generalize unaV s a1 = n at *
   rotate_left
   focus
    have hUb : (unaE s a1 == 0) = false := by rw [beq_eq_false_iff_ne]; exact hU
    rw [if_neg hU] at HWS
    clear hU
    generalize unaV s a1 = n at *
    generalize unaE s a1 = eu at *
   rotate_left
  rotate_left 2
  focus
   have hV0 : getV s a 1 = 0 := by omega
   have HWS : Hid (wst s a = some (0, getA s a 1)) := by show _ = _; unfold wst; rw [if_pos hE, if_neg hV]
   rw [hV0] at kn
   clear hE hV hEb v0 v1 hV0
  rotate_left
 rotate_left 3
 focus
  have hEb : (getE s a 1 == 0) = false := by rw [beq_eq_false_iff_ne]; exact hE
  have HWS : Hid (wst s a = none) := by show _ = _; unfold wst; rw [if_neg hE]
  rw [hEb] at kn
  clear hE hEb
  generalize getV s a 1 = vv at *
 rotate_left
 all_goals
  go_enter Tryz.func178, Tryz.ntmps178
  go_wp2_with fail
  refine kn.mono ?_
  rintro e w2 ⟨rfl, h2, h3⟩
 rotate_left 2
 ·have HH : Hid (Rd w2 x s (getA s a 1) /\ Stays (only x) w w2) := ⟨h2, h3⟩
  clear kn h2 h3
  go_wp2_with fail
  go_ret2
  exact ⟨HH.out.2, OPost.some_ HWS.out ⟨rfl, HH.out.1⟩⟩
 ·have HH := kQ h3
  clear kn h2 h3
  go_wp2_with fail
  go_ret2
  exact ⟨HH.out, OPost.none_ HWS.out ⟨_, rfl⟩⟩
 all_goals
  have HS := kQ h3
  have ku := KU.out w2 h2
  clear kn h2 h3 KU
  go_wp2_with fail
  refine ku.mono ?_
  rintro e w3 ⟨rfl, h2, h3⟩
 ·have HH : Hid (Rd w3 x s (unaA s a1) /\ Stays (only x) w w3) := ⟨h2, HS.out.trans h3 (fun _ _ h => h)⟩
  clear ku h2 h3 HS
  go_wp2_with fail
  go_ret2
  exact ⟨HH.out.2, OPost.some_ HWS.out ⟨rfl, HH.out.1⟩⟩
 ·have HH : Hid (Stays (only x) w w3) := HS.out.trans h3 (fun _ _ h => h)
  clear ku h2 h3 HS
  go_wp2_with fail
  go_ret2
  exact ⟨HH.out, OPost.none_ HWS.out ⟨_, rfl⟩⟩
end Go.Proofs.YtfpfabmbipmipaaGreatDoor
