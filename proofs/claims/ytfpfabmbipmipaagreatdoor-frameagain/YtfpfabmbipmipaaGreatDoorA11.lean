/- Own text. -/
import Derived.Test.YtfpfabmbipmipaaGreatDoorA10
set_option linter.unusedSimpArgs false
set_option linter.unusedVariables false
set_option maxRecDepth 20000
set_option maxHeartbeats 12800000
namespace Go.Proofs.YtfpfabmbipmipaaGreatDoor
open Go.RowKit
theorem made_ints (N : Nat) : madeCells #[Value.int .i64 0] N = (intsC (List.replicate N 0)).toArray := by
 apply Array.toList_inj.1
 rw [toList_madeCells_one]
 simp [intsC]
theorem IntsBlk.made (w : World) (N : Nat) : IntsBlk (w.alloc (.cells (madeCells #[.int .i64 0] N) 3)) w.heap.size (List.replicate N 0) := by
 unfold IntsBlk; rw [heap_alloc_new, made_ints]
section
variable {wx : World} (n : Nat) (v0 v1 v2 v3 u0 u1 u2 : Value)
theorem set7_a {a0 a1 a2 a3 : Value} {t : TypeId} (h : wx.heap[n]? = some (.cells #[a0, a1, a2, a3] t (0, 0))) : (((((((wx.setCell ⟨n, 0, none⟩ v0).setCell ⟨n, 1, none⟩ v1).setCell ⟨n, 2, none⟩ v2).setCell ⟨n, 3, none⟩ v3).setCell ⟨n + 1, 0, none⟩ u0).setCell ⟨n + 1, 1, none⟩ u1).setCell ⟨n + 1, 2, none⟩ u2).heap[n]? = some (.cells #[v0, v1, v2, v3] t (0, 0)) := by
 refine block_set2 _ _ _ _ _ _ _ (block_set2 _ _ _ _ _ _ _ (block_set2 _ _ _ _ _ _ _ ?_ (by omega)) (by omega)) (by omega)
 rw [block_setCell _ _ _ _ _ _ (block_setCell _ _ _ _ _ _ (block_setCell _ _ _ _ _ _ (block_setCell _ _ _ _ _ _ h)))]
 rfl
theorem set7_b {c0 c1 c2 : Value} {t : TypeId} (h : wx.heap[n + 1]? = some (.cells #[c0, c1, c2] t (0, 0))) : (((((((wx.setCell ⟨n, 0, none⟩ v0).setCell ⟨n, 1, none⟩ v1).setCell ⟨n, 2, none⟩ v2).setCell ⟨n, 3, none⟩ v3).setCell ⟨n + 1, 0, none⟩ u0).setCell ⟨n + 1, 1, none⟩ u1).setCell ⟨n + 1, 2, none⟩ u2).heap[n + 1]? = some (.cells #[u0, u1, u2] t (0, 0)) := by
 rw [block_setCell _ _ _ _ _ _ (block_setCell _ _ _ _ _ _ (block_setCell _ _ _ _ _ _ (block_set2 _ _ _ _ _ _ _ (block_set2 _ _ _ _ _ _ _ (block_set2 _ _ _ _ _ _ _ (block_set2 _ _ _ _ _ _ _ h (by omega)) (by omega)) (by omega)) (by omega))))]
 rfl
theorem set7_c (w : World) (S : Nat -> Prop) (hn : w.heap.size <= n) (h : Stays S w wx) : Stays S w (((((((wx.setCell ⟨n, 0, none⟩ v0).setCell ⟨n, 1, none⟩ v1).setCell ⟨n, 2, none⟩ v2).setCell ⟨n, 3, none⟩ v3).setCell ⟨n + 1, 0, none⟩ u0).setCell ⟨n + 1, 1, none⟩ u1).setCell ⟨n + 1, 2, none⟩ u2) :=
 ((((((h.setCell _ _ (Or.inr hn)).setCell _ _ (Or.inr hn)).setCell _ _ (Or.inr hn)).setCell _ _ (Or.inr hn)).setCell _ _ (Or.inr (Nat.le_succ_of_le hn))).setCell _ _ (Or.inr (Nat.le_succ_of_le hn))).setCell _ _ (Or.inr (Nat.le_succ_of_le hn))
theorem set7_d (j : Nat) (h0 : j ≠ n) (h1 : j ≠ n + 1) : (((((((wx.setCell ⟨n, 0, none⟩ v0).setCell ⟨n, 1, none⟩ v1).setCell ⟨n, 2, none⟩ v2).setCell ⟨n, 3, none⟩ v3).setCell ⟨n + 1, 0, none⟩ u0).setCell ⟨n + 1, 1, none⟩ u1).setCell ⟨n + 1, 2, none⟩ u2).heap[j]? = wx.heap[j]? := by
 rw [Below.heap_setCell _ _ _ j h1, Below.heap_setCell _ _ _ j h1, Below.heap_setCell _ _ _ j h1, Below.heap_setCell _ _ _ j h0, Below.heap_setCell _ _ _ j h0, Below.heap_setCell _ _ _ j h0, Below.heap_setCell _ _ _ j h0]
end
theorem heap_three (w : World) (A B C : Obj) : (((w.alloc A).alloc B).alloc C).drew.heap[w.heap.size]? = some A /\ (((w.alloc A).alloc B).alloc C).drew.heap[w.heap.size + 1]? = some B /\ (((w.alloc A).alloc B).alloc C).drew.heap[w.heap.size + 2]? = some C := by
 have h1 : Below (w.heap.size + 1) (w.alloc A) (((w.alloc A).alloc B).alloc C) := (((Below.refl _ _).alloc (by simp) _).alloc (by simp) _)
 have h2 : Below (w.heap.size + 2) ((w.alloc A).alloc B) (((w.alloc A).alloc B).alloc C) := (Below.refl _ _).alloc (by simp) _
 have e1 : (w.alloc A).heap.size = w.heap.size + 1 := by simp
 have e2 : ((w.alloc A).alloc B).heap.size = w.heap.size + 2 := by simp
 refine ⟨?_, ?_, ?_⟩
 ·show (((w.alloc A).alloc B).alloc C).heap[w.heap.size]? = _
  rw [h1.block _ (by omega)]; exact heap_alloc_new _ _
 ·show (((w.alloc A).alloc B).alloc C).heap[w.heap.size + 1]? = _
  rw [h2.block _ (by omega), <- e1]; exact heap_alloc_new _ _
 ·show (((w.alloc A).alloc B).alloc C).heap[w.heap.size + 2]? = _
  rw [<- e2]; exact heap_alloc_new _ _
theorem below_three (w : World) (A B C : Obj) : Lo w (((w.alloc A).alloc B).alloc C).drew := ((aQ.alloc (by simp) _).alloc (by simp; omega) _).drew
theorem rhead_yes (q : Nat) (s : ByteArray) (hs : s.size <= 1000000000000000000) (a : Nat) (ha : a <= 8 * s.size) (b r : Int) (w : World) (h : Rd w q s a) (m o : Int) (a1 : Nat) (hn : rdTop s a b r = some (m, o, a1)) (b' o' r' : Nat) (hb' : b = b') (ho' : o = o') (hr' : r = r') (hc : Cut b' o' r') :
  Calls Tryz.prog 222 #[.pointer (some ⟨q, 0, none⟩), .int .i64 b, .int .i64 r] w fun en w' => ∃ gp ge, en = .returned (.tuple #[.agg #[.int .i64 m, .int .i64 o, .slice (some ⟨gp, 0, none⟩) (2 ^ o') (2 ^ o'), .slice (some ⟨ge, 0, none⟩) (2 ^ o') (2 ^ o')], cutV ((2 ^ o' : Nat) : Int) ((b' / 2 ^ o' : Nat) : Int) r, .bool true]) /\ Rd w' q s a1 /\ IntsBlk w' gp (List.replicate (2 ^ o') 0) /\ IntsBlk w' ge (List.replicate (2 ^ o') 0) /\ gp ≠ ge /\ w.heap.size <= gp /\ w.heap.size <= ge /\ Stays (only q) w w' := by
 have HN0 : Hid (HS0 w ((w.alloc (.cells #[.int .i64 0, .int .i64 0, .slice none 0 0, .slice none 0 0] 65)).alloc (.cells #[.int .i64 0, .int .i64 0, .int .i64 0] 219))) := HS0.new w
 have HB0 : Hid (Lo w ((w.alloc (.cells #[.int .i64 0, .int .i64 0, .slice none 0 0, .slice none 0 0] 65)).alloc (.cells #[.int .i64 0, .int .i64 0, .int .i64 0] 219))) := aQ.alloc (by simp) _
 have hq := h.lt
 have HRd := kQ (h.below HB0.out)
 have hle2 := getA_le s a 2 ha
 have hv2 := getV_2 s a
 have hv4 := getV_4 s (getA s a 2)
 have k2 := number_spec q s hs a ha 2 (by omega) (by omega) _ HRd.out
 clear h
 have c1 : getE s a 2 = 0 /\ getV s a 2 <= 1 := by
  apply Classical.byContradiction
  intro hh
  unfold rdTop at hn
  rw [if_neg hh] at hn
  cases hn
 have c3 : getE s (getA s a 2) 4 = 0 /\ cutOk b r (getV s (getA s a 2) 4) := by
  apply Classical.byContradiction
  intro hh
  unfold rdTop at hn
  rw [if_pos c1, if_neg hh] at hn
  cases hn
 unfold rdTop at hn
 rw [if_pos c1, if_pos c3] at hn
 simp only [Option.some.injEq, Prod.mk.injEq] at hn
 obtain ⟨n1, n2, n3⟩ := hn
 have hb : (getE s a 2 == 0) = true := by rw [c1.1]; rfl
 have hb4 : (getE s (getA s a 2) 4 == 0) = true := by rw [c3.1]; rfl
 have c2 := c1.2
 rw [hb, n1] at k2
 rw [n1] at c2 hv2
 rw [n2] at hv4
 have hp := pow15 o' hc.o15
 have hb2 := hc.b2
 have hmk := run_make_row' (P := Tryz.prog) 56 3 (.int .i64 0) 8 Tryz.underlying56 info3' rfl .i64 .i64 (2 ^ o') (by omega) (by omega)
 subst hb' ho' hr'
 have KC : Hid (∀ wx, G1 191 #[.int .i64 (b' : Int), .int .i64 (r' : Int), .int .i64 (o' : Int)] wx (.tuple #[cutV ((2 ^ o' : Nat) : Int) ((b' / 2 ^ o' : Nat) : Int) (r' : Int), .bool true])) := fun wx => cutOf_yes b' o' r' hc wx
 have HN1 := kQ n2
 have HN3 := kQ n3
 have HB4 := kQ hb4
 clear c1 c3 n1 n2 n3 hb hb4 hc
 generalize hpn : 2 ^ o' = N at *
 generalize b' / N = d at *
 clear hpn
 have hn32 := hp.2
 go_enter Tryz.func222, Tryz.ntmps222
 go_wp2_with fail
 refine k2.mono ?_
 rintro e w2 ⟨rfl, h2, h3⟩
 have HH : Hid (HS0 w w2) := HN0.out.stays h3 (fun e => by unfold only at e; omega) (fun e => by unfold only at e; omega)
 have HS : Hid (Stays (only q) w w2) := (Stays.of_below HB0.out _).trans h3 (fun _ _ h => h)
 have HR := kQ h2
 clear k2 h2 h3 HN0 HB0 HRd
 have k4 := number_spec q s hs (getA s a 2) hle2 4 (by omega) (by omega) w2 HR.out
 rw [HB4.out, HN1.out] at k4
 go_wp2_with fail
 refine k4.mono ?_
 rintro e w3 ⟨rfl, h2, h3⟩
 have HH3 : Hid (HS0 w w3) := HH.out.stays h3 (fun e => by unfold only at e; omega) (fun e => by unfold only at e; omega)
 have HS3 : Hid (Stays (only q) w w3) := HS.out.trans h3 (fun _ _ h => h)
 have HR3 := kQ h2
 clear k4 h2 h3 HH HS HR
 go_wp2_with fail
 refine (KC.out w3).mono ?_
 rintro e w4 ⟨rfl, hb4'⟩
 have hcw : w.heap.size + 1 < w4.heap.size := Nat.lt_of_lt_of_le (lt_of_block HH3.out.b1) hb4'.size
 rw [HN3.out] at HR3
 have HH4 : Hid (HS0 w (w4.alloc (.cells #[.int .i64 (N : Int), .int .i64 (d : Int), .int .i64 (r' : Int)] 219))) := (HH3.out.below hb4').below aQ
 have HS4 : Hid (Stays (only q) w (w4.alloc (.cells #[.int .i64 (N : Int), .int .i64 (d : Int), .int .i64 (r' : Int)] 219))) := (HS3.out.trans (Stays.of_below hb4' _) (fun _ _ h => h)).trans (Stays.of_below aQ _) (fun _ _ h => h)
 have HR4 : Hid (Rd (w4.alloc (.cells #[.int .i64 (N : Int), .int .i64 (d : Int), .int .i64 (r' : Int)] 219)) q s a1) := (HR3.out.below hb4').below aQ
 have HC4 : Hid ((w4.alloc (.cells #[.int .i64 (N : Int), .int .i64 (d : Int), .int .i64 (r' : Int)] 219)).heap[w4.heap.size]? = some (.cells #[.int .i64 (N : Int), .int .i64 (d : Int), .int .i64 (r' : Int)] 219 (0, 0))) := heap_alloc_new _ _
 clear hb4' HH3 HS3 HR3
 go_upto_region 10 with fail
 generalize hw5 : w4.alloc _ = w5 at *
 generalize w4.heap.size = cb at *
 clear hw5
 have yc : w5.cell? ⟨cb, 0, none⟩ = some (.int .i64 (N : Int)) := by rw [cell_of_row _ _ _ _ _ _ HC4.out]; rfl
 have hcb : cb < w5.heap.size := lt_of_block HC4.out
 have hcbn : ¬ w5.heap.size = cb := by omega
 have hcbn2 : ¬ cb = w5.heap.size := by omega
 have ycA : ∀ o1 : Obj, (w5.alloc o1).cell? ⟨cb, 0, none⟩ = some (.int .i64 (N : Int)) := fun o1 => by rw [World.cell?_of_block (w := w5) (aQ.block cb hcb)]; exact yc
 have ycB : ∀ o1 o2 : Obj, ((w5.alloc o1).alloc o2).cell? ⟨cb, 0, none⟩ = some (.int .i64 (N : Int)) := fun o1 o2 => by rw [World.cell?_of_block (w := w5) ((aQ.alloc (by simp) _).block cb hcb)]; exact yc
 go_cut [13] from 47 to 55 (fun s13 wx => ∃ gp ge k : Nat, s13 = .pointer (some ⟨k, 0, none⟩) /\ wx.heap[k]? = some (.cells #[.int .i64 m, .int .i64 (o' : Int), .slice (some ⟨gp, 0, none⟩) N N, .slice (some ⟨ge, 0, none⟩) N N] 65 (0, 0)) /\ wx.heap[gp]? = some (.cells (madeCells #[.int .i64 0] N) 3 (0, 0)) /\ wx.heap[ge]? = some (.cells (madeCells #[.int .i64 0] N) 3 (0, 0)) /\ gp ≠ ge /\ w5.heap.size <= gp /\ w5.heap.size <= ge /\ w5.heap.size <= k /\ Lo w5 wx)
 case first =>
  go_region
  all_goals go_wp2_with fail
  all_goals go_meet
  all_goals first
   | exact ⟨w5.heap.size, w5.heap.size + 1, w5.heap.size + 2, rfl, (heap_three _ _ _ _).2.2, (heap_three _ _ _ _).1, (heap_three _ _ _ _).2.1, by omega, by omega, by omega, by omega, below_three _ _ _ _⟩
   | exact ⟨w5.heap.size, w5.heap.size + 2, w5.heap.size + 1, rfl, (heap_three _ _ _ _).2.1, (heap_three _ _ _ _).1, (heap_three _ _ _ _).2.2, by omega, by omega, by omega, by omega, below_three _ _ _ _⟩
   | exact ⟨w5.heap.size + 1, w5.heap.size, w5.heap.size + 2, rfl, (heap_three _ _ _ _).2.2, (heap_three _ _ _ _).2.1, (heap_three _ _ _ _).1, by omega, by omega, by omega, by omega, below_three _ _ _ _⟩
   | exact ⟨w5.heap.size + 2, w5.heap.size, w5.heap.size + 1, rfl, (heap_three _ _ _ _).2.1, (heap_three _ _ _ _).2.2, (heap_three _ _ _ _).1, by omega, by omega, by omega, by omega, below_three _ _ _ _⟩
   | exact ⟨w5.heap.size + 1, w5.heap.size + 2, w5.heap.size, rfl, (heap_three _ _ _ _).1, (heap_three _ _ _ _).2.1, (heap_three _ _ _ _).2.2, by omega, by omega, by omega, by omega, below_three _ _ _ _⟩
   | exact ⟨w5.heap.size + 2, w5.heap.size + 1, w5.heap.size, rfl, (heap_three _ _ _ _).1, (heap_three _ _ _ _).2.2, (heap_three _ _ _ _).2.1, by omega, by omega, by omega, by omega, below_three _ _ _ _⟩
 case rest =>
  clear yc ycA ycB hcbn hcbn2 hmk
  obtain ⟨gp, ge, k, rfl, hk, hgp, hge, hne, g1, g2, g3, hbc⟩ := hcut
  have HH6 := kQ (HH4.out.below hbc)
  have HS6 : Hid (Stays (only q) w wc) := HS4.out.trans (Stays.of_below hbc _) (fun _ _ h => h)
  have HR6 := kQ (HR4.out.below hbc)
  have hcc : wc.heap[cb]? = some (.cells #[.int .i64 (N : Int), .int .i64 (d : Int), .int .i64 (r' : Int)] 219 (0, 0)) := by rw [hbc.block _ hcb]; exact HC4.out
  have hsz : w.heap.size + 1 < w5.heap.size := lt_of_block HH4.out.b1
  have HGP : Hid (IntsBlk wc gp (List.replicate N 0)) := by
   show IntsBlk _ _ _
   unfold IntsBlk; rw [hgp, made_ints]
  have HGE : Hid (IntsBlk wc ge (List.replicate N 0)) := by
   show IntsBlk _ _ _
   unfold IntsBlk; rw [hge, made_ints]
  have m0 : wc.cell? ⟨k, 0, none⟩ = some (.int .i64 m) := by rw [cell_of_row _ _ _ _ _ _ hk]; rfl
  have m1 : wc.cell? ⟨k, 1, none⟩ = some (.int .i64 (o' : Int)) := by rw [cell_of_row _ _ _ _ _ _ hk]; rfl
  have m2 : wc.cell? ⟨k, 2, none⟩ = some (.slice (some ⟨gp, 0, none⟩) N N) := by rw [cell_of_row _ _ _ _ _ _ hk]; rfl
  have m3 : wc.cell? ⟨k, 3, none⟩ = some (.slice (some ⟨ge, 0, none⟩) N N) := by rw [cell_of_row _ _ _ _ _ _ hk]; rfl
  have n0 : wc.cell? ⟨cb, 0, none⟩ = some (.int .i64 (N : Int)) := by rw [cell_of_row _ _ _ _ _ _ hcc]; rfl
  have n1 : wc.cell? ⟨cb, 1, none⟩ = some (.int .i64 (d : Int)) := by rw [cell_of_row _ _ _ _ _ _ hcc]; rfl
  have n2 : wc.cell? ⟨cb, 2, none⟩ = some (.int .i64 (r' : Int)) := by rw [cell_of_row _ _ _ _ _ _ hcc]; rfl
  have hcn0 : ¬ cb = w.heap.size := by omega
  have hcn1 : ¬ cb = w.heap.size + 1 := by omega
  have hkne : ¬ k = w.heap.size := by omega
  have hkne1 : ¬ k = w.heap.size + 1 := by omega
  have HXX : Hid (w5.heap.size <= gp /\ w5.heap.size <= ge /\ gp ≠ ge) := ⟨g1, g2, hne⟩
  clear hk hgp hge hbc hcc hne g1 g2 HH4 HS4 HR4
  have hb0 := HH6.out.b0
  have hb1 := HH6.out.b1
  have u0 : wc.cell? ⟨w.heap.size, 0, none⟩ = some (.int .i64 0) := by rw [cell_of_row _ _ _ _ _ _ hb0]; rfl
  have fu0 : wc.frozen? ⟨w.heap.size, 0, none⟩ = false := by simp [World.frozen?, hb0]
  have u1 : wc.cell? ⟨w.heap.size, 1, none⟩ = some (.int .i64 0) := by rw [cell_of_row _ _ _ _ _ _ hb0]; rfl
  have fu1 : wc.frozen? ⟨w.heap.size, 1, none⟩ = false := by simp [World.frozen?, hb0]
  have u2 : wc.cell? ⟨w.heap.size, 2, none⟩ = some (.slice none 0 0) := by rw [cell_of_row _ _ _ _ _ _ hb0]; rfl
  have fu2 : wc.frozen? ⟨w.heap.size, 2, none⟩ = false := by simp [World.frozen?, hb0]
  have u3 : wc.cell? ⟨w.heap.size, 3, none⟩ = some (.slice none 0 0) := by rw [cell_of_row _ _ _ _ _ _ hb0]; rfl
  have fu3 : wc.frozen? ⟨w.heap.size, 3, none⟩ = false := by simp [World.frozen?, hb0]
  have v0 : wc.cell? ⟨w.heap.size + 1, 0, none⟩ = some (.int .i64 0) := by rw [cell_of_row _ _ _ _ _ _ hb1]; rfl
  have fv0 : wc.frozen? ⟨w.heap.size + 1, 0, none⟩ = false := by simp [World.frozen?, hb1]
  have v1 : wc.cell? ⟨w.heap.size + 1, 1, none⟩ = some (.int .i64 0) := by rw [cell_of_row _ _ _ _ _ _ hb1]; rfl
  have fv1 : wc.frozen? ⟨w.heap.size + 1, 1, none⟩ = false := by simp [World.frozen?, hb1]
  have v2 : wc.cell? ⟨w.heap.size + 1, 2, none⟩ = some (.int .i64 0) := by rw [cell_of_row _ _ _ _ _ _ hb1]; rfl
  have fv2 : wc.frozen? ⟨w.heap.size + 1, 2, none⟩ = false := by simp [World.frozen?, hb1]
  clear hb0 hb1
  go_wp2_with fail
  go_region
  go_wp2_with fail
  generalize hwf : World.setCell _ _ _ = wf
  have hr0 : wf.heap[w.heap.size]? = some (.cells #[.int .i64 m, .int .i64 (o' : Int), .slice (some ⟨gp, 0, none⟩) N N, .slice (some ⟨ge, 0, none⟩) N N] 65 (0, 0)) := by rw [<- hwf]; exact set7_a _ _ _ _ _ _ _ _ HH6.out.b0
  have hr1 : wf.heap[w.heap.size + 1]? = some (.cells #[.int .i64 (N : Int), .int .i64 (d : Int), .int .i64 (r' : Int)] 219 (0, 0)) := by rw [<- hwf]; exact set7_b _ _ _ _ _ _ _ _ HH6.out.b1
  have hst : Stays (only q) w wf := by rw [<- hwf]; exact (set7_c _ _ _ _ _ _ _ _ _ _ (Nat.le_refl _) HS6.out)
  obtain ⟨g1, g2, hne⟩ := HXX.out
  have hj : ∀ j, j ≠ w.heap.size -> j ≠ w.heap.size + 1 -> wf.heap[j]? = wc.heap[j]? := fun j h0 h1 => by rw [<- hwf]; exact set7_d _ _ _ _ _ _ _ _ j h0 h1
  refine bodyPost_ret (v := .tuple #[.agg #[.int .i64 m, .int .i64 (o' : Int), .slice (some ⟨gp, 0, none⟩) N N, .slice (some ⟨ge, 0, none⟩) N N], cutV (N : Int) (d : Int) (r' : Int), .bool true]) ?_ rfl ⟨gp, ge, rfl, ?_, ?_, ?_, hne, by omega, by omega, hst.drew⟩
  ·rw [results_three rfl]
   have hl0 := run_loadVar_row (P := Tryz.prog) wf.drew (w.heap.size) 65 65 #[.int .i64 m, .int .i64 (o' : Int), .slice (some ⟨gp, 0, none⟩) N N, .slice (some ⟨ge, 0, none⟩) N N] (0, 0) _ hr0 Tryz.underlying65 rfl info_Rice
   have hl1 := run_loadVar_row (P := Tryz.prog) wf.drew (w.heap.size + 1) 219 219 #[.int .i64 (N : Int), .int .i64 (d : Int), .int .i64 (r' : Int)] (0, 0) _ hr1 Tryz.underlying219 rfl info_cut
   simp [asAddr, Result.andThen, hl0, hl1]
  ·show Rd wf q s a1
   unfold Rd; rw [hj q (by omega) (by omega)]; exact HR6.out
  ·show IntsBlk wf gp _
   unfold IntsBlk; rw [hj gp (by omega) (by omega)]; exact HGP.out
  ·show IntsBlk wf ge _
   unfold IntsBlk; rw [hj ge (by omega) (by omega)]; exact HGE.out
end Go.Proofs.YtfpfabmbipmipaaGreatDoor
