/- Own text. -/
import Derived.Test.YtfpfabmbipmipaaGreatDoorA21
set_option linter.unusedSimpArgs false
set_option linter.unusedVariables false
set_option maxRecDepth 20000
set_option maxHeartbeats 12800000
namespace Go.Proofs.YtfpfabmbipmipaaGreatDoor
open Go.RowKit
theorem set10_a {wx : World} (n : Nat) (v0 v1 v2 v3 v4 v5 v6 v7 v8 v9 : Value) {a0 a1 a2 a3 a4 a5 a6 a7 a8 a9 : Value} {t : TypeId} (h : wx.heap[n]? = some (.cells #[a0, a1, a2, a3, a4, a5, a6, a7, a8, a9] t (0, 0))) : ((((((((((wx.setCell ⟨n, 0, none⟩ v0).setCell ⟨n, 1, none⟩ v1).setCell ⟨n, 2, none⟩ v2).setCell ⟨n, 3, none⟩ v3).setCell ⟨n, 4, none⟩ v4).setCell ⟨n, 5, none⟩ v5).setCell ⟨n, 6, none⟩ v6).setCell ⟨n, 7, none⟩ v7).setCell ⟨n, 8, none⟩ v8).setCell ⟨n, 9, none⟩ v9).heap[n]? = some (.cells #[v0, v1, v2, v3, v4, v5, v6, v7, v8, v9] t (0, 0)) := by
 rw [block_setCell _ _ _ _ _ _ (block_setCell _ _ _ _ _ _ (block_setCell _ _ _ _ _ _ (block_setCell _ _ _ _ _ _ (block_setCell _ _ _ _ _ _ (block_setCell _ _ _ _ _ _ (block_setCell _ _ _ _ _ _ (block_setCell _ _ _ _ _ _ (block_setCell _ _ _ _ _ _ (block_setCell _ _ _ _ _ _ h)))))))))]
 simp only [List.setIfInBounds_toArray, List.set_cons_zero, List.set_cons_succ]
theorem set10_c {wx : World} (n : Nat) (v0 v1 v2 v3 v4 v5 v6 v7 v8 v9 : Value) (w : World) (S : Nat -> Prop) (hn : S n ∨ w.heap.size <= n) (h : Stays S w wx) : Stays S w ((((((((((wx.setCell ⟨n, 0, none⟩ v0).setCell ⟨n, 1, none⟩ v1).setCell ⟨n, 2, none⟩ v2).setCell ⟨n, 3, none⟩ v3).setCell ⟨n, 4, none⟩ v4).setCell ⟨n, 5, none⟩ v5).setCell ⟨n, 6, none⟩ v6).setCell ⟨n, 7, none⟩ v7).setCell ⟨n, 8, none⟩ v8).setCell ⟨n, 9, none⟩ v9) :=
 (((((((((h.setCell _ _ hn).setCell _ _ hn).setCell _ _ hn).setCell _ _ hn).setCell _ _ hn).setCell _ _ hn).setCell _ _ hn).setCell _ _ hn).setCell _ _ hn).setCell _ _ hn
theorem set10_b {wx : World} (n : Nat) (v0 v1 v2 v3 v4 v5 v6 v7 v8 v9 : Value) (w : World) (hn : w.heap.size <= n) (h : Lo w wx) : Lo w ((((((((((wx.setCell ⟨n, 0, none⟩ v0).setCell ⟨n, 1, none⟩ v1).setCell ⟨n, 2, none⟩ v2).setCell ⟨n, 3, none⟩ v3).setCell ⟨n, 4, none⟩ v4).setCell ⟨n, 5, none⟩ v5).setCell ⟨n, 6, none⟩ v6).setCell ⟨n, 7, none⟩ v7).setCell ⟨n, 8, none⟩ v8).setCell ⟨n, 9, none⟩ v9) :=
 (((((((((h.setCell hn _).setCell hn _).setCell hn _).setCell hn _).setCell hn _).setCell hn _).setCell hn _).setCell hn _).setCell hn _).setCell hn _
theorem set10_d {wx : World} (n : Nat) (v0 v1 v2 v3 v4 v5 v6 v7 v8 v9 : Value) (j : Nat) (h0 : j ≠ n) : ((((((((((wx.setCell ⟨n, 0, none⟩ v0).setCell ⟨n, 1, none⟩ v1).setCell ⟨n, 2, none⟩ v2).setCell ⟨n, 3, none⟩ v3).setCell ⟨n, 4, none⟩ v4).setCell ⟨n, 5, none⟩ v5).setCell ⟨n, 6, none⟩ v6).setCell ⟨n, 7, none⟩ v7).setCell ⟨n, 8, none⟩ v8).setCell ⟨n, 9, none⟩ v9).heap[j]? = wx.heap[j]? := by
 rw [Below.heap_setCell _ _ _ j h0, Below.heap_setCell _ _ _ j h0, Below.heap_setCell _ _ _ j h0, Below.heap_setCell _ _ _ j h0, Below.heap_setCell _ _ _ j h0, Below.heap_setCell _ _ _ j h0, Below.heap_setCell _ _ _ j h0, Below.heap_setCell _ _ _ j h0, Below.heap_setCell _ _ _ j h0, Below.heap_setCell _ _ _ j h0]
theorem row_frozen {w : World} {g : Nat} {cs : Array Value} {t : TypeId} (h : w.heap[g]? = some (.cells cs t (0, 0))) (i : Nat) : w.frozen? ⟨g, i, none⟩ = false := by simp [World.frozen?, h]
theorem info_Sub : (Tryz.prog.info? 67).map (·.size) = some 10 := by kernel_rfl
def OPost {α : Type} (R : Option α) (no : Prop) (yes : α -> Prop) : Prop := match R with
 | none => no
 | some x => yes x
theorem OPost.none_ {α : Type} {R : Option α} {no : Prop} {yes : α -> Prop} (h : R = none) (hn : no) : OPost R no yes := by rw [h]; exact hn
theorem OPost.some_ {α : Type} {R : Option α} {no : Prop} {yes : α -> Prop} {x : α} (h : R = some x) (hn : yes x) : OPost R no yes := by rw [h]; exact hn
theorem s_num (x : Nat) (s : ByteArray) (hs : s.size <= 1000000000000000000) (a : Nat) (ha : a <= 8 * s.size) (k : Int) (k0 : 0 <= k) (k1 : k <= 31) (w : World) (h : Rd w x s a) :
  Calls Tryz.prog 176 #[.pointer (some ⟨x, 0, none⟩), .int .i64 k] w fun en w' => en = .returned (.tuple #[.int .i64 (getV s a k), .bool (getE s a k == 0)]) /\ Rd w' x s (getA s a k) /\ Stays (only x) w w' := by
 have kg := get_all s hs a ha w x k h
 obtain ⟨v0, v1⟩ := getV_bound s a k
 have v2 : getV s a k <= 4294967296 := by
  have hp : (2 : Int) ^ k.toNat <= 2 ^ 31 := by
   have e1 : ((2 ^ k.toNat : Nat) : Int) = 2 ^ k.toNat := by simp
   have e2 : (2 : Nat) ^ k.toNat <= 2 ^ 31 := Nat.pow_le_pow_right (by decide) (by omega)
   have e3 : (2 : Nat) ^ 31 = 2147483648 := by decide
   rw [<- e1]
   have e4 : (2 : Int) ^ 31 = 2147483648 := by decide
   omega
  have e4 : (2 : Int) ^ 31 = 2147483648 := by decide
  omega
 clear v1
 generalize getV s a k = v at *
 generalize getE s a k = ev at *
 go_enter Tryz.func176, Tryz.ntmps176
 go_wp2_with fail
 refine kg.mono ?_
 rintro e w2 ⟨rfl, h2, h3⟩
 have HH : Hid (Rd w2 x s (getA s a k) /\ Stays (only x) w w2) := ⟨h2, h3⟩
 clear h2 h3 kg
 go_wp2_with fail
 go_ret2
 exact ⟨rfl, HH.out⟩
def wst (s : ByteArray) (a : Nat) : Option (Int × Nat) :=
 if getE s a 1 = 0 then (if getV s a 1 = 1 then (if unaE s (getA s a 1) = 0 then some (unaV s (getA s a 1) + 1, unaA s (getA s a 1)) else none) else some (0, getA s a 1)) else none
theorem unaV_top (s : ByteArray) (a : Nat) : unaV s a <= 16777216 := by
 unfold unaV
 split
 ·rename_i h
  unfold unaE at h
  split at h
  ·cases h
  ·omega
 ·decide
theorem wst_rng {s : ByteArray} {a : Nat} {n : Int} {a1 : Nat} (h : wst s a = some (n, a1)) (ha : a <= 8 * s.size) : 0 <= n /\ n <= 16777217 /\ a1 <= 8 * s.size := by
 have g1 := getA_le s a 1 ha
 unfold wst at h
 split at h
 ·split at h
  ·split at h
   ·cases h
    have := unaV_pos s (getA s a 1)
    have := unaV_top s (getA s a 1)
    exact ⟨by omega, by omega, unaA_le _ _ g1⟩
   ·cases h
  ·cases h; exact ⟨by omega, by omega, g1⟩
 ·cases h
theorem s_wasted (x : Nat) (s : ByteArray) (hs : s.size <= 1000000000000000000) (a : Nat) (ha : a <= 8 * s.size) (w : World) (h : Rd w x s a) :
  Calls Tryz.prog 178 #[.pointer (some ⟨x, 0, none⟩)] w fun e w' => Stays (only x) w w' /\ OPost (wst s a) (∃ n, e = .returned (.tuple #[.int .i64 n, .bool false])) (fun p => e = .returned (.tuple #[.int .i64 p.1, .bool true]) /\ Rd w' x s p.2) := by
 have kn := s_num x s hs a ha 1 (by decide) (by decide) w h
 have g1 := getA_le s a 1 ha
 obtain ⟨v0, v1⟩ := getV_1 s a
 clear h
 by_cases hE : getE s a 1 = 0
 focus
  have hEb : (getE s a 1 == 0) = true := by rw [beq_iff_eq]; exact hE
  rw [hEb] at kn
  by_cases hV : getV s a 1 = 1
  focus
   have KU : Hid (∀ wx, Rd wx x s (getA s a 1) -> Calls Tryz.prog 198 #[.pointer (some ⟨x, 0, none⟩)] wx fun e w' => e = .returned (.tuple #[.int .i64 (unaV s (getA s a 1)), .int .i64 (unaE s (getA s a 1))]) /\ Rd w' x s (unaA s (getA s a 1)) /\ Stays (only x) wx w') := fun wx hh => unary_all s hs (getA s a 1) g1 wx x hh
   have u0 := unaV_pos s (getA s a 1)
   have u1 := unaV_top s (getA s a 1)
   have HWS : Hid (wst s a = if unaE s (getA s a 1) = 0 then some (unaV s (getA s a 1) + 1, unaA s (getA s a 1)) else none) := by show _ = _; unfold wst; rw [if_pos hE, if_pos hV]
   rw [hV] at kn
   clear hE hV hEb v0 v1
   generalize getA s a 1 = a1 at *
   by_cases hU : unaE s a1 = 0
   focus
    rw [if_pos hU] at HWS
    rw [hU] at KU
    clear hU
    generalize unaV s a1 = n at *
   rotate_left
   focus
    have hUb : (unaE s a1 == 0) = false := by rw [beq_eq_false_iff_ne]; exact hU
    rw [if_neg hU] at HWS
    clear hU
    generalize unaV s a1 = n at *
    generalize unaE s a1 = eu at *
   rotate_left
  rotate_left 2
  focus
   have hV0 : getV s a 1 = 0 := by omega
   have HWS : Hid (wst s a = some (0, getA s a 1)) := by show _ = _; unfold wst; rw [if_pos hE, if_neg hV]
   rw [hV0] at kn
   clear hE hV hEb v0 v1 hV0
  rotate_left
 rotate_left 3
 focus
  have hEb : (getE s a 1 == 0) = false := by rw [beq_eq_false_iff_ne]; exact hE
  have HWS : Hid (wst s a = none) := by show _ = _; unfold wst; rw [if_neg hE]
  rw [hEb] at kn
  clear hE hEb
  generalize getV s a 1 = vv at *
 rotate_left
 all_goals
  go_enter Tryz.func178, Tryz.ntmps178
  go_wp2_with fail
  refine kn.mono ?_
  rintro e w2 ⟨rfl, h2, h3⟩
 rotate_left 2
 ·have HH : Hid (Rd w2 x s (getA s a 1) /\ Stays (only x) w w2) := ⟨h2, h3⟩
  clear kn h2 h3
  go_wp2_with fail
  go_ret2
  exact ⟨HH.out.2, OPost.some_ HWS.out ⟨rfl, HH.out.1⟩⟩
 ·have HH := kQ h3
  clear kn h2 h3
  go_wp2_with fail
  go_ret2
  exact ⟨HH.out, OPost.none_ HWS.out ⟨_, rfl⟩⟩
 all_goals
  have HS := kQ h3
  have ku := KU.out w2 h2
  clear kn h2 h3 KU
  go_wp2_with fail
  refine ku.mono ?_
  rintro e w3 ⟨rfl, h2, h3⟩
 ·have HH : Hid (Rd w3 x s (unaA s a1) /\ Stays (only x) w w3) := ⟨h2, HS.out.trans h3 (fun _ _ h => h)⟩
  clear ku h2 h3 HS
  go_wp2_with fail
  go_ret2
  exact ⟨HH.out.2, OPost.some_ HWS.out ⟨rfl, HH.out.1⟩⟩
 ·have HH : Hid (Stays (only x) w w3) := HS.out.trans h3 (fun _ _ h => h)
  clear ku h2 h3 HS
  go_wp2_with fail
  go_ret2
  exact ⟨HH.out, OPost.none_ HWS.out ⟨_, rfl⟩⟩
def ofT (t b : Int) : Option (Int × Int) := match kindN t with
 | none => none
 | some (k, o) => if o <= b then some (k, o) else none
theorem ofT_0 (b : Int) (hb : 1 <= b) : ofT 0 b = some (0, 0) := by unfold ofT; show (if (0 : Int) <= b then some ((0 : Int), (0 : Int)) else none) = _; rw [if_pos (by omega)]
theorem ofT_1 (b : Int) (hb : 1 <= b) : ofT 1 b = some (1, 0) := by unfold ofT; show (if (0 : Int) <= b then some ((1 : Int), (0 : Int)) else none) = _; rw [if_pos (by omega)]
theorem ofT_2 (t b : Int) (h : 8 <= t /\ t <= 12 /\ t - 8 <= b) : ofT t b = some (2, t - 8) := by
 unfold ofT kindN
 rw [if_neg (by omega), if_neg (by omega), if_pos (by omega)]
 show (if t - 8 <= b then some ((2 : Int), t - 8) else none) = _
 rw [if_pos h.2.2]
theorem ofT_2n (t b : Int) (h0 : 2 <= t) (h1 : t <= 31) (h : ¬ (8 <= t /\ t <= 12 /\ t - 8 <= b)) : ofT t b = none := by
 unfold ofT kindN
 rw [if_neg (by omega), if_neg (by omega)]
 by_cases hh : 8 <= t /\ t <= 12
 ·rw [if_pos hh]
  show (if t - 8 <= b then some ((2 : Int), t - 8) else none) = _
  rw [if_neg (by omega)]
 ·rw [if_neg hh, if_neg (by omega)]
theorem ofT_3 (t b : Int) (h : 32 <= t /\ t <= 63 /\ t - 31 <= b) : ofT t b = some (3, t - 31) := by
 unfold ofT kindN
 rw [if_neg (by omega), if_neg (by omega), if_neg (by omega), if_pos (by omega)]
 show (if t - 31 <= b then some ((3 : Int), t - 31) else none) = _
 rw [if_pos h.2.2]
theorem ofT_3n (t b : Int) (h0 : 32 <= t) (h1 : t <= 63) (h : ¬ t - 31 <= b) : ofT t b = none := by
 unfold ofT kindN
 rw [if_neg (by omega), if_neg (by omega), if_neg (by omega), if_pos (by omega)]
 show (if t - 31 <= b then some ((3 : Int), t - 31) else none) = _
 rw [if_neg h]
theorem s_oftype (t b : Int) (ht0 : 0 <= t) (ht1 : t <= 63) (hb : 1 <= b) (w : World) : Calls Tryz.prog 177 #[.int .i64 t, .int .i64 b] w fun e w' => Lo w w' /\ OPost (ofT t b) (∃ k o, e = .returned (.tuple #[subV ⟨k, o, 0, 0, 0, [], R0⟩ none 0 none 0 none 0, .bool false])) (fun p => e = .returned (.tuple #[subV ⟨p.1, p.2, 0, 0, 0, [], R0⟩ none 0 none 0 none 0, .bool true])) := by
 by_cases h0 : t = 0
 ·subst h0
  go_enter Tryz.func177, Tryz.ntmps177
  go_wp2_with fail
  generalize hwf : World.alloc _ _ = wf
  have hH : wf.heap[w.heap.size]? = some (.cells (subC ⟨0, 0, 0, 0, 0, [], R0⟩ none 0 none 0 none 0) 67 (0, 0)) := by rw [<- hwf]; exact heap_alloc_new _ _
  have hS : Lo w wf := by rw [<- hwf]; exact aQ
  refine bodyPost_ret (v := .tuple #[.agg (subC ⟨0, 0, 0, 0, 0, [], R0⟩ none 0 none 0 none 0), .bool true]) ?_ rfl ⟨hS, OPost.some_ (ofT_0 b hb) rfl⟩
  rw [results_two rfl]
  have hld := run_loadVar_row (P := Tryz.prog) (wf) (w.heap.size) 67 67 (subC ⟨0, 0, 0, 0, 0, [], R0⟩ none 0 none 0 none 0) (0, 0) _ hH Tryz.underlying67 rfl info_Sub
  simp [asAddr, Result.andThen, hld]
 focus
  by_cases h1 : t = 1
  ·subst h1
   go_enter Tryz.func177, Tryz.ntmps177
   go_wp2_with fail
   generalize hwf : World.alloc _ _ = wf
   have hH : wf.heap[w.heap.size]? = some (.cells (subC ⟨1, 0, 0, 0, 0, [], R0⟩ none 0 none 0 none 0) 67 (0, 0)) := by rw [<- hwf]; exact heap_alloc_new _ _
   have hS : Lo w wf := by rw [<- hwf]; exact aQ
   refine bodyPost_ret (v := .tuple #[.agg (subC ⟨1, 0, 0, 0, 0, [], R0⟩ none 0 none 0 none 0), .bool true]) ?_ rfl ⟨hS, OPost.some_ (ofT_1 b hb) rfl⟩
   rw [results_two rfl]
   have hld := run_loadVar_row (P := Tryz.prog) (wf) (w.heap.size) 67 67 (subC ⟨1, 0, 0, 0, 0, [], R0⟩ none 0 none 0 none 0) (0, 0) _ hH Tryz.underlying67 rfl info_Sub
   simp [asAddr, Result.andThen, hld]
  focus
   have hb0 : (t == 0) = false := by rw [beq_eq_false_iff_ne]; exact h0
   have hb1 : (t == 1) = false := by rw [beq_eq_false_iff_ne]; exact h1
   by_cases h31 : t <= 31
   ·by_cases hg : 8 <= t /\ t <= 12 /\ t - 8 <= b
    ·have HO : ordOk 2 (t - 8) b := by omega
     have KO : Hid (∀ wx, G1 171 #[subV ⟨2, t - 8, 0, 0, 0, [], R0⟩ none 0 none 0 none 0, .int .i64 b] wx (.bool true)) := fun wx => s_order ⟨2, t - 8, 0, 0, 0, [], R0⟩ none 0 none 0 none 0 b true (tt_iff HO) wx
     have HT : Hid (∀ wy, wy = ((w.alloc (.cells (subC ⟨0, 0, 0, 0, 0, [], R0⟩ none 0 none 0 none 0) 67)).alloc (.cells (subC ⟨2, t - 8, 0, 0, 0, [], R0⟩ none 0 none 0 none 0) 67)).drew -> wy.heap[w.heap.size]? = some (.cells (subC ⟨0, 0, 0, 0, 0, [], R0⟩ none 0 none 0 none 0) 67 (0, 0)) /\ wy.heap[w.heap.size + 1]? = some (.cells (subC ⟨2, t - 8, 0, 0, 0, [], R0⟩ none 0 none 0 none 0) 67 (0, 0)) /\ Lo w wy) := fun wy hy => by
      rw [hy]
      refine ⟨heap_two _ _ _, ?_, (aQ.alloc (by simp) _).trans dQ⟩
      have hh := heap_alloc_new (w.alloc (.cells (subC ⟨0, 0, 0, 0, 0, [], R0⟩ none 0 none 0 none 0) 67)) (.cells (subC ⟨2, t - 8, 0, 0, 0, [], R0⟩ none 0 none 0 none 0) 67)
      rw [show (w.alloc (.cells (subC ⟨0, 0, 0, 0, 0, [], R0⟩ none 0 none 0 none 0) 67)).heap.size = w.heap.size + 1 from by simp] at hh
      exact hh
     clear HO
     go_enter Tryz.func177, Tryz.ntmps177
     go_wp2_with fail
     generalize hwd : World.alloc _ _ = wd
     have HD := HT.out wd.drew (by rw [<- hwd]; rfl)
     have HD : Hid (_ /\ _ /\ _) := HD
     clear HT hwd
     refine wp_region_held_drew (S := fun wx => wx.heap[w.heap.size + 1]? = some (.cells (subC ⟨2, t - 8, 0, 0, 0, [], R0⟩ none 0 none 0 none 0) 67 (0, 0))) (by kernel_rfl) HD.out.2.1 (fun hS => ?_)
     refine uQ 0 (subV ⟨2, t - 8, 0, 0, 0, [], R0⟩ none 0 none 0 none 0) rfl hS (Or.inl ⟨by rfl, fun w hSw => by obtain ⟨x0, x1, x2, x3, x4, x5, x6, x7, x8, x9⟩ := sub_cells hSw; go_simp⟩) ?_
     simp only [SL]
     refine uQ 1 (subV ⟨2, t - 8, 0, 0, 0, [], R0⟩ none 0 none 0 none 0) rfl hS (Or.inl ⟨by rfl, fun w hSw => by obtain ⟨x0, x1, x2, x3, x4, x5, x6, x7, x8, x9⟩ := sub_cells hSw; go_simp⟩) ?_
     simp only [SL]
     refine vQ 2 (.int .i64 b) hS ?_
     simp only [SL]
     refine wpAnyH_ready (rs := [3]) (by kernel_rfl) (by simp) ?_
     refine AllReadyH.cons rfl (fun K hK => ?_) AllReadyH.nil
     go_simp
     refine (KO.out _).mono ?_
     rintro e w4 ⟨rfl, hb4⟩
     have hz4 : w4.heap[w.heap.size]? = some (.cells (subC ⟨0, 0, 0, 0, 0, [], R0⟩ none 0 none 0 none 0) 67 (0, 0)) := by rw [hb4.block _ (lt_of_block HD.out.1)]; exact HD.out.1
     have hs4 : w4.heap[w.heap.size + 1]? = some (.cells (subC ⟨2, t - 8, 0, 0, 0, [], R0⟩ none 0 none 0 none 0) 67 (0, 0)) := by rw [hb4.block _ (lt_of_block HD.out.2.1)]; exact HD.out.2.1
     have HB4 := kQ (HD.out.2.2.trans (hb4.mono HD.out.2.2.size))
     refine hK.out _ _ hs4 (fun hS4 => ?_)
     clear hK K KO hb4
     try simp only [SL]
     obtain ⟨x0, x1, x2, x3, x4, x5, x6, x7, x8, x9⟩ := sub_cells hz4
     have fu0 := row_frozen hz4 0
     have fu1 := row_frozen hz4 1
     have fu2 := row_frozen hz4 2
     have fu3 := row_frozen hz4 3
     have fu4 := row_frozen hz4 4
     have fu5 := row_frozen hz4 5
     have fu6 := row_frozen hz4 6
     have fu7 := row_frozen hz4 7
     have fu8 := row_frozen hz4 8
     have fu9 := row_frozen hz4 9
     refine wpAnyH_ready (rs := [4]) (by kernel_rfl) (by simp) ?_
     refine AllReadyH.cons rfl (fun K hK => ?_) AllReadyH.nil
     go_simp
     generalize hwf : World.setCell _ _ _ = wf at *
     have hH : wf.heap[w.heap.size]? = some (.cells (subC ⟨2, t - 8, 0, 0, 0, [], R0⟩ none 0 none 0 none 0) 67 (0, 0)) := by rw [<- hwf]; exact set10_a _ _ _ _ _ _ _ _ _ _ _ hz4
     have hN : wf.heap[w.heap.size + 1]? = some (.cells (subC ⟨2, t - 8, 0, 0, 0, [], R0⟩ none 0 none 0 none 0) 67 (0, 0)) := by rw [<- hwf, set10_d _ _ _ _ _ _ _ _ _ _ _ _ (by omega)]; exact hs4
     have HB5 : Hid (Lo w wf) := by rw [<- hwf]; exact set10_b _ _ _ _ _ _ _ _ _ _ _ _ (Nat.le_refl _) HB4.out
     refine hK.out _ _ hN (fun hS5 => ?_)
     clear hK K hwf hz4 hs4 HB4 x0 x1 x2 x3 x4 x5 x6 x7 x8 x9 fu0 fu1 fu2 fu3 fu4 fu5 fu6 fu7 fu8 fu9
     try simp only [SL]
     refine vQ 5 (.bool true) hS5 ?_
     simp only [SL]
     refine wpAnyH_done (by kernel_rfl) ?_ _
     go_wp2_with fail
     refine bodyPost_ret (v := .tuple #[.agg (subC ⟨2, t - 8, 0, 0, 0, [], R0⟩ none 0 none 0 none 0), .bool true]) ?_ rfl ⟨HB5.out, OPost.some_ (ofT_2 t b hg) rfl⟩
     rw [results_two rfl]
     have hld := run_loadVar_row (P := Tryz.prog) (wf) (w.heap.size) 67 67 (subC ⟨2, t - 8, 0, 0, 0, [], R0⟩ none 0 none 0 none 0) (0, 0) _ hH Tryz.underlying67 rfl info_Sub
     simp [asAddr, Result.andThen, hld]
    ·have HO : ¬ ordOk 2 (t - 8) b := by omega
     have KO : Hid (∀ wx, G1 171 #[subV ⟨2, t - 8, 0, 0, 0, [], R0⟩ none 0 none 0 none 0, .int .i64 b] wx (.bool false)) := fun wx => s_order ⟨2, t - 8, 0, 0, 0, [], R0⟩ none 0 none 0 none 0 b false (ff_iff HO) wx
     have HT : Hid (∀ wy, wy = ((w.alloc (.cells (subC ⟨0, 0, 0, 0, 0, [], R0⟩ none 0 none 0 none 0) 67)).alloc (.cells (subC ⟨2, t - 8, 0, 0, 0, [], R0⟩ none 0 none 0 none 0) 67)).drew -> wy.heap[w.heap.size]? = some (.cells (subC ⟨0, 0, 0, 0, 0, [], R0⟩ none 0 none 0 none 0) 67 (0, 0)) /\ wy.heap[w.heap.size + 1]? = some (.cells (subC ⟨2, t - 8, 0, 0, 0, [], R0⟩ none 0 none 0 none 0) 67 (0, 0)) /\ Lo w wy) := fun wy hy => by
      rw [hy]
      refine ⟨heap_two _ _ _, ?_, (aQ.alloc (by simp) _).trans dQ⟩
      have hh := heap_alloc_new (w.alloc (.cells (subC ⟨0, 0, 0, 0, 0, [], R0⟩ none 0 none 0 none 0) 67)) (.cells (subC ⟨2, t - 8, 0, 0, 0, [], R0⟩ none 0 none 0 none 0) 67)
      rw [show (w.alloc (.cells (subC ⟨0, 0, 0, 0, 0, [], R0⟩ none 0 none 0 none 0) 67)).heap.size = w.heap.size + 1 from by simp] at hh
      exact hh
     clear HO
     go_enter Tryz.func177, Tryz.ntmps177
     go_wp2_with fail
     generalize hwd : World.alloc _ _ = wd
     have HD := HT.out wd.drew (by rw [<- hwd]; rfl)
     have HD : Hid (_ /\ _ /\ _) := HD
     clear HT hwd
     refine wp_region_held_drew (S := fun wx => wx.heap[w.heap.size + 1]? = some (.cells (subC ⟨2, t - 8, 0, 0, 0, [], R0⟩ none 0 none 0 none 0) 67 (0, 0))) (by kernel_rfl) HD.out.2.1 (fun hS => ?_)
     refine uQ 0 (subV ⟨2, t - 8, 0, 0, 0, [], R0⟩ none 0 none 0 none 0) rfl hS (Or.inl ⟨by rfl, fun w hSw => by obtain ⟨x0, x1, x2, x3, x4, x5, x6, x7, x8, x9⟩ := sub_cells hSw; go_simp⟩) ?_
     simp only [SL]
     refine uQ 1 (subV ⟨2, t - 8, 0, 0, 0, [], R0⟩ none 0 none 0 none 0) rfl hS (Or.inl ⟨by rfl, fun w hSw => by obtain ⟨x0, x1, x2, x3, x4, x5, x6, x7, x8, x9⟩ := sub_cells hSw; go_simp⟩) ?_
     simp only [SL]
     refine vQ 2 (.int .i64 b) hS ?_
     simp only [SL]
     refine wpAnyH_ready (rs := [3]) (by kernel_rfl) (by simp) ?_
     refine AllReadyH.cons rfl (fun K hK => ?_) AllReadyH.nil
     go_simp
     refine (KO.out _).mono ?_
     rintro e w4 ⟨rfl, hb4⟩
     have hz4 : w4.heap[w.heap.size]? = some (.cells (subC ⟨0, 0, 0, 0, 0, [], R0⟩ none 0 none 0 none 0) 67 (0, 0)) := by rw [hb4.block _ (lt_of_block HD.out.1)]; exact HD.out.1
     have hs4 : w4.heap[w.heap.size + 1]? = some (.cells (subC ⟨2, t - 8, 0, 0, 0, [], R0⟩ none 0 none 0 none 0) 67 (0, 0)) := by rw [hb4.block _ (lt_of_block HD.out.2.1)]; exact HD.out.2.1
     have HB4 := kQ (HD.out.2.2.trans (hb4.mono HD.out.2.2.size))
     refine hK.out _ _ hs4 (fun hS4 => ?_)
     clear hK K KO hb4
     try simp only [SL]
     obtain ⟨x0, x1, x2, x3, x4, x5, x6, x7, x8, x9⟩ := sub_cells hz4
     have fu0 := row_frozen hz4 0
     have fu1 := row_frozen hz4 1
     have fu2 := row_frozen hz4 2
     have fu3 := row_frozen hz4 3
     have fu4 := row_frozen hz4 4
     have fu5 := row_frozen hz4 5
     have fu6 := row_frozen hz4 6
     have fu7 := row_frozen hz4 7
     have fu8 := row_frozen hz4 8
     have fu9 := row_frozen hz4 9
     refine wpAnyH_ready (rs := [4]) (by kernel_rfl) (by simp) ?_
     refine AllReadyH.cons rfl (fun K hK => ?_) AllReadyH.nil
     go_simp
     generalize hwf : World.setCell _ _ _ = wf at *
     have hH : wf.heap[w.heap.size]? = some (.cells (subC ⟨2, t - 8, 0, 0, 0, [], R0⟩ none 0 none 0 none 0) 67 (0, 0)) := by rw [<- hwf]; exact set10_a _ _ _ _ _ _ _ _ _ _ _ hz4
     have hN : wf.heap[w.heap.size + 1]? = some (.cells (subC ⟨2, t - 8, 0, 0, 0, [], R0⟩ none 0 none 0 none 0) 67 (0, 0)) := by rw [<- hwf, set10_d _ _ _ _ _ _ _ _ _ _ _ _ (by omega)]; exact hs4
     have HB5 : Hid (Lo w wf) := by rw [<- hwf]; exact set10_b _ _ _ _ _ _ _ _ _ _ _ _ (Nat.le_refl _) HB4.out
     refine hK.out _ _ hN (fun hS5 => ?_)
     clear hK K hwf hz4 hs4 HB4 x0 x1 x2 x3 x4 x5 x6 x7 x8 x9 fu0 fu1 fu2 fu3 fu4 fu5 fu6 fu7 fu8 fu9
     try simp only [SL]
     refine vQ 5 (.bool false) hS5 ?_
     simp only [SL]
     refine wpAnyH_done (by kernel_rfl) ?_ _
     go_wp2_with fail
     refine bodyPost_ret (v := .tuple #[.agg (subC ⟨2, t - 8, 0, 0, 0, [], R0⟩ none 0 none 0 none 0), .bool false]) ?_ rfl ⟨HB5.out, OPost.none_ (ofT_2n t b (by omega) h31 (by omega)) ⟨_, _, rfl⟩⟩
     rw [results_two rfl]
     have hld := run_loadVar_row (P := Tryz.prog) (wf) (w.heap.size) 67 67 (subC ⟨2, t - 8, 0, 0, 0, [], R0⟩ none 0 none 0 none 0) (0, 0) _ hH Tryz.underlying67 rfl info_Sub
     simp [asAddr, Result.andThen, hld]
   focus
    by_cases hg : t - 31 <= b
    focus
     have HO : ordOk 3 (t - 31) b := by omega
     have KO : Hid (∀ wx, G1 171 #[subV ⟨3, t - 31, 0, 0, 0, [], R0⟩ none 0 none 0 none 0, .int .i64 b] wx (.bool true)) := fun wx => s_order ⟨3, t - 31, 0, 0, 0, [], R0⟩ none 0 none 0 none 0 b true (tt_iff HO) wx
    rotate_left
    focus
     have HO : ¬ ordOk 3 (t - 31) b := by omega
     have KO : Hid (∀ wx, G1 171 #[subV ⟨3, t - 31, 0, 0, 0, [], R0⟩ none 0 none 0 none 0, .int .i64 b] wx (.bool false)) := fun wx => s_order ⟨3, t - 31, 0, 0, 0, [], R0⟩ none 0 none 0 none 0 b false (ff_iff HO) wx
    rotate_left
   rotate_left 2
  rotate_left 2
 rotate_left 2
 all_goals
  have HT : Hid (∀ wy, wy = ((w.alloc (.cells (subC ⟨0, 0, 0, 0, 0, [], R0⟩ none 0 none 0 none 0) 67)).alloc (.cells (subC ⟨3, t - 31, 0, 0, 0, [], R0⟩ none 0 none 0 none 0) 67)).drew -> wy.heap[w.heap.size]? = some (.cells (subC ⟨0, 0, 0, 0, 0, [], R0⟩ none 0 none 0 none 0) 67 (0, 0)) /\ wy.heap[w.heap.size + 1]? = some (.cells (subC ⟨3, t - 31, 0, 0, 0, [], R0⟩ none 0 none 0 none 0) 67 (0, 0)) /\ Lo w wy) := fun wy hy => by
   rw [hy]
   refine ⟨heap_two _ _ _, ?_, (aQ.alloc (by simp) _).trans dQ⟩
   have hh := heap_alloc_new (w.alloc (.cells (subC ⟨0, 0, 0, 0, 0, [], R0⟩ none 0 none 0 none 0) 67)) (.cells (subC ⟨3, t - 31, 0, 0, 0, [], R0⟩ none 0 none 0 none 0) 67)
   rw [show (w.alloc (.cells (subC ⟨0, 0, 0, 0, 0, [], R0⟩ none 0 none 0 none 0) 67)).heap.size = w.heap.size + 1 from by simp] at hh
   exact hh
  clear HO
  go_enter Tryz.func177, Tryz.ntmps177
  go_wp2_with fail
  generalize hwd : World.alloc _ _ = wd
  have HD := HT.out wd.drew (by rw [<- hwd]; rfl)
  have HD : Hid (_ /\ _ /\ _) := HD
  clear HT hwd
  refine wp_region_held_drew (S := fun wx => wx.heap[w.heap.size + 1]? = some (.cells (subC ⟨3, t - 31, 0, 0, 0, [], R0⟩ none 0 none 0 none 0) 67 (0, 0))) (by kernel_rfl) HD.out.2.1 (fun hS => ?_)
  refine uQ 0 (subV ⟨3, t - 31, 0, 0, 0, [], R0⟩ none 0 none 0 none 0) rfl hS (Or.inl ⟨by rfl, fun w hSw => by obtain ⟨x0, x1, x2, x3, x4, x5, x6, x7, x8, x9⟩ := sub_cells hSw; go_simp⟩) ?_
  simp only [SL]
  refine uQ 1 (subV ⟨3, t - 31, 0, 0, 0, [], R0⟩ none 0 none 0 none 0) rfl hS (Or.inl ⟨by rfl, fun w hSw => by obtain ⟨x0, x1, x2, x3, x4, x5, x6, x7, x8, x9⟩ := sub_cells hSw; go_simp⟩) ?_
  simp only [SL]
  refine vQ 2 (.int .i64 b) hS ?_
  simp only [SL]
  refine wpAnyH_ready (rs := [3]) (by kernel_rfl) (by simp) ?_
  refine AllReadyH.cons rfl (fun K hK => ?_) AllReadyH.nil
  go_simp
  refine (KO.out _).mono ?_
  rintro e w4 ⟨rfl, hb4⟩
  have hz4 : w4.heap[w.heap.size]? = some (.cells (subC ⟨0, 0, 0, 0, 0, [], R0⟩ none 0 none 0 none 0) 67 (0, 0)) := by rw [hb4.block _ (lt_of_block HD.out.1)]; exact HD.out.1
  have hs4 : w4.heap[w.heap.size + 1]? = some (.cells (subC ⟨3, t - 31, 0, 0, 0, [], R0⟩ none 0 none 0 none 0) 67 (0, 0)) := by rw [hb4.block _ (lt_of_block HD.out.2.1)]; exact HD.out.2.1
  have HB4 := kQ (HD.out.2.2.trans (hb4.mono HD.out.2.2.size))
  refine hK.out _ _ hs4 (fun hS4 => ?_)
  clear hK K KO hb4
  try simp only [SL]
  obtain ⟨x0, x1, x2, x3, x4, x5, x6, x7, x8, x9⟩ := sub_cells hz4
  have fu0 := row_frozen hz4 0
  have fu1 := row_frozen hz4 1
  have fu2 := row_frozen hz4 2
  have fu3 := row_frozen hz4 3
  have fu4 := row_frozen hz4 4
  have fu5 := row_frozen hz4 5
  have fu6 := row_frozen hz4 6
  have fu7 := row_frozen hz4 7
  have fu8 := row_frozen hz4 8
  have fu9 := row_frozen hz4 9
  refine wpAnyH_ready (rs := [4]) (by kernel_rfl) (by simp) ?_
  refine AllReadyH.cons rfl (fun K hK => ?_) AllReadyH.nil
  go_simp
  generalize hwf : World.setCell _ _ _ = wf at *
  have hH : wf.heap[w.heap.size]? = some (.cells (subC ⟨3, t - 31, 0, 0, 0, [], R0⟩ none 0 none 0 none 0) 67 (0, 0)) := by rw [<- hwf]; exact set10_a _ _ _ _ _ _ _ _ _ _ _ hz4
  have hN : wf.heap[w.heap.size + 1]? = some (.cells (subC ⟨3, t - 31, 0, 0, 0, [], R0⟩ none 0 none 0 none 0) 67 (0, 0)) := by rw [<- hwf, set10_d _ _ _ _ _ _ _ _ _ _ _ _ (by omega)]; exact hs4
  have HB5 : Hid (Lo w wf) := by rw [<- hwf]; exact set10_b _ _ _ _ _ _ _ _ _ _ _ _ (Nat.le_refl _) HB4.out
  refine hK.out _ _ hN (fun hS5 => ?_)
  clear hK K hwf hz4 hs4 HB4 x0 x1 x2 x3 x4 x5 x6 x7 x8 x9 fu0 fu1 fu2 fu3 fu4 fu5 fu6 fu7 fu8 fu9
  try simp only [SL]
 focus
  refine vQ 5 (.bool true) hS5 ?_
  simp only [SL]
  refine wpAnyH_done (by kernel_rfl) ?_ _
  go_wp2_with fail
  refine bodyPost_ret (v := .tuple #[.agg (subC ⟨3, t - 31, 0, 0, 0, [], R0⟩ none 0 none 0 none 0), .bool true]) ?_ rfl ⟨HB5.out, OPost.some_ (ofT_3 t b (by omega)) rfl⟩
 rotate_left
 focus
  refine vQ 5 (.bool false) hS5 ?_
  simp only [SL]
  refine wpAnyH_done (by kernel_rfl) ?_ _
  go_wp2_with fail
  refine bodyPost_ret (v := .tuple #[.agg (subC ⟨3, t - 31, 0, 0, 0, [], R0⟩ none 0 none 0 none 0), .bool false]) ?_ rfl ⟨HB5.out, OPost.none_ (ofT_3n t b (by omega) ht1 (by omega)) ⟨_, _, rfl⟩⟩
 rotate_left
 all_goals
  rw [results_two rfl]
  have hld := run_loadVar_row (P := Tryz.prog) (wf) (w.heap.size) 67 67 (subC ⟨3, t - 31, 0, 0, 0, [], R0⟩ none 0 none 0 none 0) (0, 0) _ hH Tryz.underlying67 rfl info_Sub
  simp [asAddr, Result.andThen, hld]
theorem put_seven1 : ∀ t : Nat, t < 64 -> bitsOf 1 1 ++ bitsOf t 6 = bitsOf (64 + t) 7 := by decide
theorem getE_split (s : ByteArray) (a : Nat) : getE s a 7 = 0 ↔ getE s a 1 = 0 /\ getE s (getA s a 1) 6 = 0 := by
 have e : ∀ (a k : Nat), k <= 64 -> (getE s a (k : Int) = 0 ↔ a + k <= 8 * s.size) := fun a k hk => by
  unfold getE
  rw [if_neg (by omega), Int.toNat_natCast]
  split <;> omega
 have e7 : getE s a 7 = 0 ↔ a + 7 <= 8 * s.size := e a 7 (by decide)
 have e1 : getE s a 1 = 0 ↔ a + 1 <= 8 * s.size := e a 1 (by decide)
 constructor
 ·intro h
  have h7 := e7.1 h
  have h1 := e1.2 (by omega)
  refine ⟨h1, ?_⟩
  have hA : getA s a 1 = a + 1 := by unfold getA; rw [if_pos h1]; rfl
  rw [hA]
  exact (e (a + 1) 6 (by decide)).2 (by omega)
 ·rintro ⟨h1, h6⟩
  have hA : getA s a 1 = a + 1 := by unfold getA; rw [if_pos h1]; rfl
  rw [hA] at h6
  have := (e (a + 1) 6 (by decide)).1 h6
  exact e7.2 (by omega)
theorem getV_split (s : ByteArray) (a : Nat) (h1 : getE s a 1 = 0) (h6 : getE s (getA s a 1) 6 = 0) : getA s (getA s a 1) 6 = getA s a 7 /\ (getV s a 1 = 0 -> getV s a 7 = getV s (getA s a 1) 6) /\ (¬ getV s a 1 = 0 -> 64 <= getV s a 7) := by
 have h7 := (getE_split s a).2 ⟨h1, h6⟩
 have hA1 : getA s a 1 = a + 1 := by unfold getA; rw [if_pos h1]; rfl
 have hA7 : getA s a 7 = a + 7 := by unfold getA; rw [if_pos h7]; rfl
 rw [hA1] at h6 ⊢
 have hA6 : getA s (a + 1) 6 = a + 7 := by unfold getA; rw [if_pos h6]; rfl
 have v1 : getV s a 1 = (bitsAt s a 1 : Int) := by unfold getV; rw [if_pos h1]; rfl
 have v6 : getV s (a + 1) 6 = (bitsAt s (a + 1) 6 : Int) := by unfold getV; rw [if_pos h6]; rfl
 have v7 : getV s a 7 = (bitsAt s a 7 : Int) := by unfold getV; rw [if_pos h7]; rfl
 have b1 := getV_bound s a 1
 have b6 := getV_bound s (a + 1) 6
 have p1 : (2 : Int) ^ (1 : Int).toNat = 2 := rfl
 have p6 : (2 : Int) ^ (6 : Int).toNat = 64 := rfl
 rw [p1, v1] at b1
 rw [p6, v6] at b6
 have hsz : a + 7 <= 8 * s.size := by
  unfold getE at h7
  rw [if_neg (by decide)] at h7
  split at h7
  ·cases h7
  ·rename_i hh; exact Nat.le_of_not_lt hh
 have c1 := ahead_cut s a 1 (by omega)
 have c6 := ahead_cut s (a + 1) 6 (by omega)
 rw [c6, <- List.append_assoc] at c1
 refine ⟨by rw [hA6, hA7], fun h0 => ?_, fun h0 => ?_⟩
 ·have e0 : bitsAt s a 1 = 0 := by omega
  rw [e0, put_seven _ (by omega)] at c1
  have := bitsAt_ahead s a _ 7 _ c1
  rw [v7, v6, this]
  have e7 : (2 : Nat) ^ 7 = 128 := by decide
  rw [e7]
  omega
 ·have e0 : bitsAt s a 1 = 1 := by omega
  rw [e0, put_seven1 _ (by omega)] at c1
  have := bitsAt_ahead s a _ 7 _ c1
  rw [v7, this]
  have e7 : (2 : Nat) ^ 7 = 128 := by decide
  rw [e7]
  omega
theorem kindN_64 (t : Int) (h : 64 <= t) : kindN t = none := by
 unfold kindN; rw [if_neg (by omega), if_neg (by omega), if_neg (by omega), if_neg (by omega)]
theorem rdW_wst (s : ByteArray) (a : Nat) (v : Int) (hv : 1 <= v) : rdW s a v = match wst s a with
  | none => none
  | some (n, a1) => if n < v then some (n, a1) else none := by
 unfold rdW wst
 by_cases h1 : getE s a 1 = 0
 ·rw [if_pos h1, if_pos h1]
  by_cases h2 : getV s a 1 = 1
  ·rw [if_pos h2, if_pos h2]
   by_cases h3 : unaE s (getA s a 1) = 0
   ·rw [if_pos h3]
    show _ = if unaV s (getA s a 1) + 1 < v then some (unaV s (getA s a 1) + 1, unaA s (getA s a 1)) else none
    by_cases h4 : unaV s (getA s a 1) + 1 < v
    ·rw [if_pos ⟨h3, h4⟩, if_pos h4]
    ·rw [if_neg (fun h => h4 h.2), if_neg h4]
   ·rw [if_neg h3, if_neg (fun h => h3 h.1)]
  ·rw [if_neg h2, if_neg h2]
   show _ = if (0 : Int) < v then some ((0 : Int), getA s a 1) else none
   rw [if_pos (by omega)]
 ·rw [if_neg h1, if_neg h1]
section
variable (s : ByteArray) (a : Nat) (b v : Int)
theorem rdS_1 (h : ¬ getE s a 1 = 0) : rdSHead s a b v = none := by unfold rdSHead; rw [if_neg (fun h7 => h ((getE_split s a).1 h7).1)]
theorem rdS_2 (h1 : getE s a 1 = 0) (h : ¬ getE s (getA s a 1) 6 = 0) : rdSHead s a b v = none := by unfold rdSHead; rw [if_neg (fun h7 => h ((getE_split s a).1 h7).2)]
theorem rdS_3 (h1 : getE s a 1 = 0) (h : ¬ getV s a 1 = 0) : rdSHead s a b v = none := by
 by_cases h6 : getE s (getA s a 1) 6 = 0
 ·unfold rdSHead
  rw [if_pos ((getE_split s a).2 ⟨h1, h6⟩), kindN_64 _ ((getV_split s a h1 h6).2.2 h)]
 ·exact rdS_2 s a b v h1 h6
theorem rdS_4 (hv : 1 <= v) (h1 : getE s a 1 = 0) (h0 : getV s a 1 = 0) (h6 : getE s (getA s a 1) 6 = 0) : rdSHead s a b v = match ofT (getV s (getA s a 1) 6) b with
  | none => none
  | some (k, o) => match wst s (getA s (getA s a 1) 6) with
   | none => none
   | some (n, a1) => if n < v then some (k, o, n, a1) else none := by
 obtain ⟨g1, g2, _⟩ := getV_split s a h1 h6
 unfold rdSHead ofT
 rw [if_pos ((getE_split s a).2 ⟨h1, h6⟩), g2 h0, g1, rdW_wst s _ v hv]
 cases kindN (getV s (getA s a 1) 6) with
 | none => rfl
 | some p =>
  obtain ⟨k, o⟩ := p
  cases wst s (getA s a 7) with
  | none => simp only; split <;> simp_all
  | some p2 =>
   obtain ⟨n, a1⟩ := p2
   simp only
   by_cases hn : n < v
   ·by_cases ho : o <= b
    ·simp [hn, ho]
    ·simp [hn, ho]
   ·by_cases ho : o <= b
    ·simp [hn, ho]
    ·simp [hn, ho]
end
structure HDS (w : World) (x : Nat) (s : ByteArray) (a : Nat) (wx : World) : Prop where
 zb : wx.heap[w.heap.size]? = some (.cells (subC ⟨0, 0, 0, 0, 0, [], R0⟩ none 0 none 0 none 0) 67 (0, 0))
 rd : Rd wx x s a
 st : Stays (only x) w wx
 hx : x < w.heap.size
section
variable {w wx w' : World} {x : Nat} {s : ByteArray} {a a' : Nat}
theorem HDS.then_ (h : HDS w x s a wx) (hr : Rd w' x s a') (hS : Stays (only x) wx w') : HDS w x s a' w' :=
 ⟨by rw [hS.block _ (lt_of_block h.zb) (fun e => by have := h.hx; unfold only at e; omega)]; exact h.zb, hr, h.st.trans hS (fun _ _ h => h), h.hx⟩
theorem HDS.low (h : HDS w x s a wx) (hb : Lo wx w') : HDS w x s a w' :=
 ⟨by rw [hb.block _ (lt_of_block h.zb)]; exact h.zb, h.rd.below hb, h.st.trans (Stays.of_below hb (only x)) (fun _ _ h => h), h.hx⟩
end
theorem HDS.start {w : World} {x : Nat} {s : ByteArray} {a : Nat} (h : Rd w x s a) : HDS w x s a (w.alloc (.cells (subC ⟨0, 0, 0, 0, 0, [], R0⟩ none 0 none 0 none 0) 67)) := by
 have hb : Lo w (w.alloc (.cells (subC ⟨0, 0, 0, 0, 0, [], R0⟩ none 0 none 0 none 0) 67)) := aQ
 exact ⟨heap_alloc_new _ _, h.below hb, Stays.of_below hb _, lt_of_block h⟩
end Go.Proofs.YtfpfabmbipmipaaGreatDoor
