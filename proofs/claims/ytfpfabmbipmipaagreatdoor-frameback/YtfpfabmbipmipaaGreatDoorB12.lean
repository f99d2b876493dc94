/- Own text. -/
import Derived.Test.YtfpfabmbipmipaaGreatDoorB11
set_option linter.unusedSimpArgs false
set_option linter.unusedVariables false
set_option maxRecDepth 20000
set_option maxHeartbeats 12800000
namespace Go.Proofs.YtfpfabmbipmipaaGreatDoor
open Go.RowKit
theorem results_mid {fn : Func} {p t t2 : Tmp} {ty : TypeId} (h : fn.results = #[.tmp t, .cell p ty, .tmp t2]) (tmps : Array Value) (P : Program) (w : World) :
  (results fn tmps).run P w = ((asAddr (tmps.getD p undef)).run P w).andThen fun a w₁ => ((loadVar ty a).run P w₁).andThen fun x w₂ => .ok (.tuple #[tmps.getD t undef, x, tmps.getD t2 undef]) w₂ := by
 simp only [results, h]
 simp [Sem.run_bind, Result.andThen]
structure DD (n0 q k gp ge gl cq : Nat) : Prop where
 hq : q < n0
 hk : n0 < k
 hp : n0 < gp
 he : n0 < ge
 hl : n0 < gl
 hc : n0 < cq
 kp : k ≠ gp
 ke : k ≠ ge
 kl : k ≠ gl
 kc : k ≠ cq
 pe : gp ≠ ge
 pl : gp ≠ gl
 pc : gp ≠ cq
 el : ge ≠ gl
 ec : ge ≠ cq
 lc : gl ≠ cq
theorem DD.dist {n0 q k gp ge gl cq : Nat} (h : DD n0 q k gp ge gl cq) : Dist q k gp ge := by
 have := h.hq; have := h.hk; have := h.hp; have := h.he
 exact ⟨by omega, by omega, by omega, h.kp, h.ke, h.pe⟩
structure DJ (w : World) (q : Nat) (s : ByteArray) (k gp ge gl cq N : Nat) (m o : Int) (d r : Nat) (P E L : List Int) (a : Nat) (wx : World) : Prop where
 ds : DS q s k gp ge N m o P E a wx
 bl : IntsBlk wx gl L
 cb : wx.heap[cq]? = some (.cells #[.int .i64 (N : Int), .int .i64 (d : Int), .int .i64 (r : Int)] 219 (0, 0))
 rb : wx.heap[w.heap.size]? = some (.cells #[.int .i64 0, .int .i64 0, .slice none 0 0, .slice none 0 0] 65 (0, 0))
 st : Stays (only q) w wx
section
variable {w wx w' : World} {q : Nat} {s : ByteArray} {k gp ge gl cq N : Nat} {m o : Int} {d r : Nat} {P E L P' E' L' : List Int} {a a' : Nat}
theorem DJ.low (h : DJ w q s k gp ge gl cq N m o d r P E L a wx) (hb : Lo wx w') : DJ w q s k gp ge gl cq N m o d r P E L a w' :=
 ⟨h.ds.low hb, h.bl.below hb, by rw [hb.block _ (lt_of_block h.cb)]; exact h.cb, by rw [hb.block _ (lt_of_block h.rb)]; exact h.rb, h.st.trans (Stays.of_below hb _) (fun _ _ h => h)⟩
theorem DJ.head (h : DJ w q s k gp ge gl cq N m o d r P E L a wx) (D : DD w.heap.size q k gp ge gl cq) (hd : DS q s k gp ge N m o P' E' a' w') (hS : Stays (S3 q gp ge) wx w') : DJ w q s k gp ge gl cq N m o d r P' E' L a' w' := by
 have h1 := D.hq; have h2 := D.hp; have h3 := D.he; have h4 := D.hl; have h5 := D.hc
 refine ⟨hd, h.bl.stays hS ?_, ?_, ?_, h.st.trans hS ?_⟩
 ·rintro (e | e | e)
  ·omega
  ·exact D.pl e.symm
  ·exact D.el e.symm
 ·rw [hS.block _ (lt_of_block h.cb)]
  ·exact h.cb
  ·rintro (e | e | e)
   ·omega
   ·exact D.pc e.symm
   ·exact D.ec e.symm
 ·rw [hS.block _ (lt_of_block h.rb)]
  ·exact h.rb
  ·rintro (e | e | e) <;> omega
 ·rintro i hi (e | e | e)
  ·exact e
  ·omega
  ·omega
theorem DJ.nums (h : DJ w q s k gp ge gl cq N m o d r P E L a wx) (D : DD w.heap.size q k gp ge gl cq) (hd : DS q s k gp ge N m o P E a' w') (hl : IntsBlk w' gl L') (hS : Stays (S2 q gl) wx w') : DJ w q s k gp ge gl cq N m o d r P E L' a' w' := by
 have h1 := D.hq; have h4 := D.hl; have h5 := D.hc
 refine ⟨hd, hl, ?_, ?_, h.st.trans hS ?_⟩
 ·rw [hS.block _ (lt_of_block h.cb)]
  ·exact h.cb
  ·rintro (e | e)
   ·omega
   ·exact D.lc e.symm
 ·rw [hS.block _ (lt_of_block h.rb)]
  ·exact h.rb
  ·rintro (e | e) <;> omega
 ·rintro i hi (e | e)
  ·exact e
  ·omega
theorem DJ.stS (h : DJ w q s k gp ge gl cq N m o d r P E L a wx) (D : DD w.heap.size q k gp ge gl cq) {S : Nat -> Prop} (hS : Stays S wx w') (hs : ∀ b, S b -> b = q ∨ w.heap.size < b) : Stays (only q) w w' /\ w'.heap[w.heap.size]? = some (.cells #[.int .i64 0, .int .i64 0, .slice none 0 0, .slice none 0 0] 65 (0, 0)) := by
 have h1 := D.hq
 refine ⟨h.st.trans hS (fun i hi hh => ?_), ?_⟩
 ·rcases hs i hh with e | e
  ·exact e
  ·omega
 ·rw [hS.block _ (lt_of_block h.rb)]
  ·exact h.rb
  ·intro hh
   rcases hs _ hh with e | e <;> omega
theorem DJ.cells (h : DJ w q s k gp ge gl cq N m o d r P E L a wx) : wx.cell? ⟨k, 0, none⟩ = some (.int .i64 m) /\ wx.cell? ⟨k, 1, none⟩ = some (.int .i64 o) /\ wx.cell? ⟨k, 2, none⟩ = some (.slice (some ⟨gp, 0, none⟩) N N) /\ wx.cell? ⟨k, 3, none⟩ = some (.slice (some ⟨ge, 0, none⟩) N N) /\ wx.cell? ⟨cq, 0, none⟩ = some (.int .i64 (N : Int)) /\ wx.cell? ⟨cq, 1, none⟩ = some (.int .i64 (d : Int)) /\ wx.cell? ⟨cq, 2, none⟩ = some (.int .i64 (r : Int)) := by
 obtain ⟨x0, x1, x2, x3⟩ := h.ds.cells
 refine ⟨x0, x1, x2, x3, ?_, ?_, ?_⟩ <;> (rw [cell_of_row _ _ _ _ _ _ h.cb]; rfl)
end
structure DK (w : World) (q k gp ge cq N : Nat) (m o : Int) (d r : Nat) (wx : World) : Prop where
 bk : wx.heap[k]? = some (.cells #[.int .i64 m, .int .i64 o, .slice (some ⟨gp, 0, none⟩) N N, .slice (some ⟨ge, 0, none⟩) N N] 65 (0, 0))
 cb : wx.heap[cq]? = some (.cells #[.int .i64 (N : Int), .int .i64 (d : Int), .int .i64 (r : Int)] 219 (0, 0))
 rb : wx.heap[w.heap.size]? = some (.cells #[.int .i64 0, .int .i64 0, .slice none 0 0, .slice none 0 0] 65 (0, 0))
 st : Stays (only q) w wx
theorem DK.cells {w wx : World} {q k gp ge cq N : Nat} {m o : Int} {d r : Nat} (h : DK w q k gp ge cq N m o d r wx) : wx.cell? ⟨k, 0, none⟩ = some (.int .i64 m) /\ wx.cell? ⟨k, 1, none⟩ = some (.int .i64 o) /\ wx.cell? ⟨k, 2, none⟩ = some (.slice (some ⟨gp, 0, none⟩) N N) /\ wx.cell? ⟨k, 3, none⟩ = some (.slice (some ⟨ge, 0, none⟩) N N) /\ wx.cell? ⟨cq, 0, none⟩ = some (.int .i64 (N : Int)) /\ wx.cell? ⟨cq, 1, none⟩ = some (.int .i64 (d : Int)) /\ wx.cell? ⟨cq, 2, none⟩ = some (.int .i64 (r : Int)) := by
 refine ⟨?_, ?_, ?_, ?_, ?_, ?_, ?_⟩ <;> first | (rw [cell_of_row _ _ _ _ _ _ h.bk]; rfl) | (rw [cell_of_row _ _ _ _ _ _ h.cb]; rfl)
theorem DJ.dk {w wx w' : World} {q : Nat} {s : ByteArray} {k gp ge gl cq N : Nat} {m o : Int} {d r : Nat} {P E L : List Int} {a : Nat} (h : DJ w q s k gp ge gl cq N m o d r P E L a wx) (D : DD w.heap.size q k gp ge gl cq) {S : Nat -> Prop} (hS : Stays S wx w') (hs : ∀ b, S b -> b = q ∨ b = gp ∨ b = ge ∨ b = gl) : DK w q k gp ge cq N m o d r w' := by
 have h1 := D.hq; have h2 := D.hk; have h3 := D.hc; have h4 := D.hp; have h5 := D.he; have h6 := D.hl
 have h7 := D.kp; have h8 := D.ke; have h9 := D.kl; have h10 := D.pc; have h11 := D.ec; have h12 := D.lc
 obtain ⟨a1, a2⟩ := h.stS D hS (fun b hb => by rcases hs b hb with e | e | e | e <;> omega)
 refine ⟨?_, ?_, a2, a1⟩
 ·rw [hS.block _ (lt_of_block h.ds.bk)]
  ·exact h.ds.bk
  ·intro hh; rcases hs _ hh with e | e | e | e <;> omega
 ·rw [hS.block _ (lt_of_block h.cb)]
  ·exact h.cb
  ·intro hh; rcases hs _ hh with e | e | e | e <;> omega
theorem set4_a {wx : World} (n : Nat) (v0 v1 v2 v3 : Value) {a0 a1 a2 a3 : Value} {t : TypeId} (h : wx.heap[n]? = some (.cells #[a0, a1, a2, a3] t (0, 0))) : ((((wx.setCell ⟨n, 0, none⟩ v0).setCell ⟨n, 1, none⟩ v1).setCell ⟨n, 2, none⟩ v2).setCell ⟨n, 3, none⟩ v3).heap[n]? = some (.cells #[v0, v1, v2, v3] t (0, 0)) := by
 rw [block_setCell _ _ _ _ _ _ (block_setCell _ _ _ _ _ _ (block_setCell _ _ _ _ _ _ (block_setCell _ _ _ _ _ _ h)))]
 rfl
theorem set4_c {wx : World} (n : Nat) (v0 v1 v2 v3 : Value) (w : World) (S : Nat -> Prop) (hn : w.heap.size <= n) (h : Stays S w wx) : Stays S w ((((wx.setCell ⟨n, 0, none⟩ v0).setCell ⟨n, 1, none⟩ v1).setCell ⟨n, 2, none⟩ v2).setCell ⟨n, 3, none⟩ v3) :=
 (((h.setCell _ _ (Or.inr hn)).setCell _ _ (Or.inr hn)).setCell _ _ (Or.inr hn)).setCell _ _ (Or.inr hn)
theorem set4_d {wx : World} (n : Nat) (v0 v1 v2 v3 : Value) (j : Nat) (h0 : j ≠ n) : ((((wx.setCell ⟨n, 0, none⟩ v0).setCell ⟨n, 1, none⟩ v1).setCell ⟨n, 2, none⟩ v2).setCell ⟨n, 3, none⟩ v3).heap[j]? = wx.heap[j]? := by
 rw [Below.heap_setCell _ _ _ j h0, Below.heap_setCell _ _ _ j h0, Below.heap_setCell _ _ _ j h0, Below.heap_setCell _ _ _ j h0]
def DPost (R : Option (Rc × List Int × Nat)) (no : Prop) (yes : Rc -> List Int -> Nat -> Prop) : Prop := match R with
 | none => no
 | some (c, L, a) => yes c L a
theorem DPost.none_ {R : Option (Rc × List Int × Nat)} {no : Prop} {yes : Rc -> List Int -> Nat -> Prop} (h : R = none) (hn : no) : DPost R no yes := by rw [h]; exact hn
theorem DPost.some_ {R : Option (Rc × List Int × Nat)} {no : Prop} {yes : Rc -> List Int -> Nat -> Prop} {c : Rc} {L : List Int} {a : Nat} (h : R = some (c, L, a)) (hn : yes c L a) : DPost R no yes := by rw [h]; exact hn
theorem set_next (X : List Int) (z : Nat) (v : Int) (hz : 0 < z) : (X ++ List.replicate z 0).set X.length v = X ++ [v] ++ List.replicate (z - 1) 0 := by
 have h := set_mid [] X [] z v hz
 simpa using h
theorem getD_next (X Y : List Int) (v : Int) : (X ++ [v] ++ Y).getD X.length 0 = v := by
 rw [List.getD_eq_getElem?_getD, List.append_assoc, List.getElem?_append_right (Nat.le_refl _), Nat.sub_self]; rfl
theorem getD_zero (X : List Int) (z : Nat) : (X ++ List.replicate z 0).getD X.length 0 = 0 := by
 rw [List.getD_eq_getElem?_getD, List.getElem?_append_right (Nat.le_refl _), Nat.sub_self]
 cases z with
 | zero => rfl
 | succ z => rw [List.replicate_succ]; rfl
theorem decode_arg (q : Nat) (b r : Int) (w : World) (hno : ¬ argOk b r) :
  Calls Tryz.prog 201 #[.pointer (some ⟨q, 0, none⟩), .int .i64 b, .int .i64 r] w fun en w' => en = .returned (.tuple #[.slice none 0 0, zRice, .int .i64 1]) /\ Lo w w' := by
 have KA : Hid (∀ wx, G0 209 #[.int .i64 b, .int .i64 r] wx (.bool (areB b r))) := fun wx => areOf_spec b r wx
 cases har : areB b r with
 | false =>
  rw [har] at KA
  clear hno har
  go_enter Tryz.func201, Tryz.ntmps201
  go_wp2_with (go_at_call 209; refine (KA.out _).mono ?_; rintro e w' ⟨rfl, rfl⟩)
  generalize hwf : World.alloc _ _ = wf
  have hH : wf.heap[w.heap.size]? = some (.cells #[.int .i64 0, .int .i64 0, .slice none 0 0, .slice none 0 0] 65 (0, 0)) := by rw [<- hwf]; exact heap_alloc_new _ _
  have hS : Lo w wf := by rw [<- hwf]; exact aQ
  refine bodyPost_ret (v := .tuple #[.slice none 0 0, zRice, .int .i64 1]) ?_ rfl ⟨rfl, hS⟩
  rw [results_mid rfl]
  have hl0 := run_loadVar_row (P := Tryz.prog) wf (w.heap.size) 65 65 #[.int .i64 0, .int .i64 0, .slice none 0 0, .slice none 0 0] (0, 0) _ hH Tryz.underlying65 rfl info_Rice
  simp [asAddr, Result.andThen, hl0]
 | true =>
  have hh : 1 <= b /\ b <= 65535 /\ 0 <= r /\ r <= 32 := of_decide_eq_true har
  have hrb : b < r := by unfold argOk at hno; omega
  rw [har] at KA
  clear hno har
  go_enter Tryz.func201, Tryz.ntmps201
  go_wp2_with (go_at_call 209; refine (KA.out _).mono ?_; rintro e w' ⟨rfl, rfl⟩)
  generalize hwf : World.alloc _ _ = wf
  have hH : wf.heap[w.heap.size]? = some (.cells #[.int .i64 0, .int .i64 0, .slice none 0 0, .slice none 0 0] 65 (0, 0)) := by rw [<- hwf]; exact heap_alloc_new _ _
  have hS : Lo w wf := by rw [<- hwf]; exact aQ
  refine bodyPost_ret (v := .tuple #[.slice none 0 0, zRice, .int .i64 1]) ?_ rfl ⟨rfl, hS⟩
  rw [results_mid rfl]
  have hl0 := run_loadVar_row (P := Tryz.prog) wf (w.heap.size) 65 65 #[.int .i64 0, .int .i64 0, .slice none 0 0, .slice none 0 0] (0, 0) _ hH Tryz.underlying65 rfl info_Rice
  simp [asAddr, Result.andThen, hl0]
theorem decode_top (q : Nat) (s : ByteArray) (hs : s.size <= 1000000000000000000) (a : Nat) (ha : a <= 8 * s.size) (b r : Int) (hok : argOk b r) (w : World) (h : Rd w q s a) (hn : rdTop s a b r = none) :
  Calls Tryz.prog 201 #[.pointer (some ⟨q, 0, none⟩), .int .i64 b, .int .i64 r] w fun en w' => en = .returned (.tuple #[.slice none 0 0, zRice, .int .i64 2]) /\ Stays (only q) w w' := by
 have KA : Hid (∀ wx, G0 209 #[.int .i64 b, .int .i64 r] wx (.bool true)) := fun wx => (areOf_spec b r wx).mono fun e w' hh => ⟨by rw [hh.1, show areB b r = true from decide_eq_true (by unfold argOk at hok; omega)], hh.2⟩
 have hrb : ¬ b < r := by unfold argOk at hok; omega
 have hq := h.lt
 have HB0 : Hid (Lo w (w.alloc (.cells #[.int .i64 0, .int .i64 0, .slice none 0 0, .slice none 0 0] 65))) := aQ
 have HR0 := kQ (h.below HB0.out)
 have HX0 : Hid ((w.alloc (.cells #[.int .i64 0, .int .i64 0, .slice none 0 0, .slice none 0 0] 65)).heap[w.heap.size]? = some (.cells #[.int .i64 0, .int .i64 0, .slice none 0 0, .slice none 0 0] 65 (0, 0))) := heap_alloc_new _ _
 clear h
 have KH : Hid (∀ wx, Rd wx q s a -> Calls Tryz.prog 222 #[.pointer (some ⟨q, 0, none⟩), .int .i64 b, .int .i64 r] wx fun en w' => en = .returned (.tuple #[zRice, cutV 0 0 0, .bool false]) /\ Stays (only q) wx w') := fun wx hx => rhead_no q s hs a ha b r wx hx hn
 clear hn hok
 go_enter Tryz.func201, Tryz.ntmps201
 go_wp2_with (go_at_call 209; refine (KA.out _).mono ?_; rintro e w' ⟨rfl, rfl⟩)
 generalize hwa : w.alloc _ = wa at *
 have hwz : w.heap.size < wa.heap.size := lt_of_block HX0.out
 clear hwa
 refine (KH.out wa HR0.out).mono ?_
 rintro e w2 ⟨rfl, h2⟩
 have HS2 : Hid (Stays (only q) w ((w2.alloc (.cells #[.int .i64 0, .int .i64 0, .slice none 0 0, .slice none 0 0] 65)).alloc (.cells #[.int .i64 0, .int .i64 0, .int .i64 0] 219))) := ((Stays.of_below HB0.out _).trans h2 (fun _ _ h => h)).trans (Stays.of_below (aQ.alloc (by simp) _) _) (fun _ _ h => h)
 have hx2 : w2.heap[w.heap.size]? = some (.cells #[.int .i64 0, .int .i64 0, .slice none 0 0, .slice none 0 0] 65 (0, 0)) := by rw [h2.block _ hwz (fun e => by unfold only at e; omega)]; exact HX0.out
 have hx3 : ((w2.alloc (.cells #[.int .i64 0, .int .i64 0, .slice none 0 0, .slice none 0 0] 65)).alloc (.cells #[.int .i64 0, .int .i64 0, .int .i64 0] 219)).heap[w.heap.size]? = some (.cells #[.int .i64 0, .int .i64 0, .slice none 0 0, .slice none 0 0] 65 (0, 0)) := by rw [(aQ.alloc (by simp) _ : Lo w2 _).block _ (lt_of_block hx2)]; exact hx2
 have HX3 := kQ hx3
 have u0 : ((w2.alloc (.cells #[.int .i64 0, .int .i64 0, .slice none 0 0, .slice none 0 0] 65)).alloc (.cells #[.int .i64 0, .int .i64 0, .int .i64 0] 219)).cell? ⟨w.heap.size, 0, none⟩ = some (.int .i64 0) := by rw [cell_of_row _ _ _ _ _ _ hx3]; rfl
 have fu0 : ((w2.alloc (.cells #[.int .i64 0, .int .i64 0, .slice none 0 0, .slice none 0 0] 65)).alloc (.cells #[.int .i64 0, .int .i64 0, .int .i64 0] 219)).frozen? ⟨w.heap.size, 0, none⟩ = false := by simp [World.frozen?, hx3]
 have u1 : ((w2.alloc (.cells #[.int .i64 0, .int .i64 0, .slice none 0 0, .slice none 0 0] 65)).alloc (.cells #[.int .i64 0, .int .i64 0, .int .i64 0] 219)).cell? ⟨w.heap.size, 1, none⟩ = some (.int .i64 0) := by rw [cell_of_row _ _ _ _ _ _ hx3]; rfl
 have fu1 : ((w2.alloc (.cells #[.int .i64 0, .int .i64 0, .slice none 0 0, .slice none 0 0] 65)).alloc (.cells #[.int .i64 0, .int .i64 0, .int .i64 0] 219)).frozen? ⟨w.heap.size, 1, none⟩ = false := by simp [World.frozen?, hx3]
 have u2 : ((w2.alloc (.cells #[.int .i64 0, .int .i64 0, .slice none 0 0, .slice none 0 0] 65)).alloc (.cells #[.int .i64 0, .int .i64 0, .int .i64 0] 219)).cell? ⟨w.heap.size, 2, none⟩ = some (.slice none 0 0) := by rw [cell_of_row _ _ _ _ _ _ hx3]; rfl
 have fu2 : ((w2.alloc (.cells #[.int .i64 0, .int .i64 0, .slice none 0 0, .slice none 0 0] 65)).alloc (.cells #[.int .i64 0, .int .i64 0, .int .i64 0] 219)).frozen? ⟨w.heap.size, 2, none⟩ = false := by simp [World.frozen?, hx3]
 have u3 : ((w2.alloc (.cells #[.int .i64 0, .int .i64 0, .slice none 0 0, .slice none 0 0] 65)).alloc (.cells #[.int .i64 0, .int .i64 0, .int .i64 0] 219)).cell? ⟨w.heap.size, 3, none⟩ = some (.slice none 0 0) := by rw [cell_of_row _ _ _ _ _ _ hx3]; rfl
 have fu3 : ((w2.alloc (.cells #[.int .i64 0, .int .i64 0, .slice none 0 0, .slice none 0 0] 65)).alloc (.cells #[.int .i64 0, .int .i64 0, .int .i64 0] 219)).frozen? ⟨w.heap.size, 3, none⟩ = false := by simp [World.frozen?, hx3]
 clear h2 hx2 hx3
 go_wp2_with fail
 generalize hwf : World.setCell _ _ _ = wf
 have hH : wf.heap[w.heap.size]? = some (.cells #[.int .i64 0, .int .i64 0, .slice none 0 0, .slice none 0 0] 65 (0, 0)) := by rw [<- hwf]; exact set4_a _ _ _ _ _ HX3.out
 have hS : Stays (only q) w wf := by rw [<- hwf]; exact set4_c _ _ _ _ _ _ _ (Nat.le_refl _) HS2.out
 refine bodyPost_ret (v := .tuple #[.slice none 0 0, zRice, .int .i64 2]) ?_ rfl (⟨rfl, hS⟩)
 rw [results_mid rfl]
 have hl0 := run_loadVar_row (P := Tryz.prog) wf (w.heap.size) 65 65 #[.int .i64 0, .int .i64 0, .slice none 0 0, .slice none 0 0] (0, 0) _ hH Tryz.underlying65 rfl info_Rice
 simp [asAddr, Result.andThen, hl0]
theorem decode_main (q : Nat) (s : ByteArray) (hs : s.size ≤ 1000000000000000000) (a : Nat) (ha : a ≤ 8 * s.size) (b o r : Nat) (hC : Cut b o r) (m : Int) (a1 : Nat) (ht : rdTop s a b r = some (m, (o : Int), a1)) (hok : argOk b r) (w : World) (h : Rd w q s a) :
  Calls Tryz.prog 201 #[.pointer (some ⟨q, 0, none⟩), .int .i64 (b : Int), .int .i64 (r : Int)] w fun en w' => DPost (decP s a b r) (en = .returned (.tuple #[.slice none 0 0, zRice, .int .i64 2]) ∧ Stays (only q) w w') (fun c L a2 => ∃ gl gp ge, en = .returned (.tuple #[.slice (some ⟨gl, 0, none⟩) L.length L.length, riceV c (some ⟨gp, 0, none⟩) c.P.length (some ⟨ge, 0, none⟩) c.E.length, .int .i64 0]) ∧ IntsBlk w' gl L ∧ IntsBlk w' gp c.P ∧ IntsBlk w' ge c.E ∧ w.heap.size ≤ gl ∧ w.heap.size ≤ gp ∧ w.heap.size ≤ ge ∧ Rd w' q s a2 ∧ a2 ≤ 8 * s.size ∧ Stays (only q) w w') := by
 have KA : Hid (∀ wx, Calls Tryz.prog 209 #[.int .i64 (b : Int), .int .i64 (r : Int)] wx fun e w' => e = .returned (.bool true) ∧ w' = wx) := fun wx => (areOf_spec b r wx).mono fun e w' hh => ⟨by rw [hh.1, show areB b r = true from decide_eq_true (by unfold argOk at hok; omega)], hh.2⟩
 have hrb : ¬ (b : Int) < (r : Int) := by unfold argOk at hok; omega
 have hq := h.lt
 have HB0 : Hid (Below w.heap.size w (w.alloc (.cells #[.int .i64 0, .int .i64 0, .slice none 0 0, .slice none 0 0] 65))) := (Below.refl _ _).alloc (Nat.le_refl _) _
 have HR0 : Hid (Rd (w.alloc (.cells #[.int .i64 0, .int .i64 0, .slice none 0 0, .slice none 0 0] 65)) q s a) := h.below HB0.out
 have HX0 : Hid ((w.alloc (.cells #[.int .i64 0, .int .i64 0, .slice none 0 0, .slice none 0 0] 65)).heap[w.heap.size]? = some (.cells #[.int .i64 0, .int .i64 0, .slice none 0 0, .slice none 0 0] 65 (0, 0))) := heap_alloc_new _ _
 clear h
 have KH : Hid (∀ wx, Rd wx q s a → Calls Tryz.prog 222 #[.pointer (some ⟨q, 0, none⟩), .int .i64 (b : Int), .int .i64 (r : Int)] wx fun en w' => ∃ gp ge, en = .returned (.tuple #[.agg #[.int .i64 m, .int .i64 (o : Int), .slice (some ⟨gp, 0, none⟩) (2 ^ o) (2 ^ o), .slice (some ⟨ge, 0, none⟩) (2 ^ o) (2 ^ o)], cutV ((2 ^ o : Nat) : Int) ((b / 2 ^ o : Nat) : Int) (r : Int), .bool true]) ∧ Rd w' q s a1 ∧ IntsBlk w' gp (List.replicate (2 ^ o) 0) ∧ IntsBlk w' ge (List.replicate (2 ^ o) 0) ∧ gp ≠ ge ∧ wx.heap.size ≤ gp ∧ wx.heap.size ≤ ge ∧ Stays (only q) wx w') := fun wx hx => rhead_yes q s hs a ha b r wx hx m o a1 ht b o r rfl rfl rfl hC
 have hm01 : 0 ≤ m ∧ m ≤ 1 ∧ a1 ≤ 8 * s.size := by
  unfold rdTop at ht
  split at ht
  ·rename_i g0
   split at ht
   ·simp only [Option.some.injEq, Prod.mk.injEq] at ht
    obtain ⟨e1, e2, e3⟩ := ht
    have := getV_2 s a
    refine ⟨by omega, by omega, ?_⟩
    rw [← e3]
    exact getA_le _ _ _ (getA_le _ _ _ ha)
   ·cases ht
  ·cases ht
 obtain ⟨hm0, hm1, ha1⟩ := hm01
 have HDP0 : Hid (∀ n, n ≤ 2 ^ o → rdParts s m b o r n a1 = none → decP s a b r = none) := fun n hn hh => by
  unfold decP
  rw [ht]
  simp only [Int.toNat_natCast]
  rw [rdParts_none (2 ^ o) hh hn]
 have HDP1 : Hid (∀ dd, rdParts s m b o r (2 ^ o) a1 = some dd → decP s a b r = some (⟨m, o, dd.P, dd.E⟩, dd.L, dd.a)) := fun dd hh => by
  unfold decP
  rw [ht]
  simp only [Int.toNat_natCast]
  rw [hh]
 have hp := pow15 o hC.o15
 have hdv := hC.dv
 have hb2 := hC.b2
 have hr2 := hC.r2
 have hrb2 := hC.rb
 have hd : b / 2 ^ o ≤ 65535 := by have := Nat.div_le_self b (2 ^ o); omega
 have KN : Hid (∀ wx, Calls Tryz.prog 210 #[cutV ((2 ^ o : Nat) : Int) ((b / 2 ^ o : Nat) : Int) (r : Int)] wx fun e w' => e = .returned (.int .i64 ((b - r : Nat) : Int)) ∧ Below wx.heap.size wx w') := fun wx => by
  have hh := count_spec (2 ^ o) (b / 2 ^ o) r (by omega) hr2 hp.2 hd wx
  rw [hdv] at hh
  refine hh.mono ?_
  rintro e w' ⟨rfl, hb⟩
  refine ⟨?_, hb⟩
  rw [show ((b - r : Nat) : Int) = (b : Int) - (r : Int) by omega]
 have hmk := run_make_row' (P := Tryz.prog) 56 3 (.int .i64 0) 8 Tryz.underlying56 info3' rfl .i64 .i64 (b - r) (by omega) (by omega)
 have HKP : Hid (∀ (i gl : Nat) wx, i < 2 ^ o → Calls Tryz.prog 195 #[cutV ((2 ^ o : Nat) : Int) ((b / 2 ^ o : Nat) : Int) (r : Int), .slice (some ⟨gl, 0, none⟩) (b - r) (b - r), .int .i64 (i : Int)] wx fun e w' => ∃ xo, e = .returned (.slice xo (frN b o r (i + 1) - frN b o r i) (frN b o r (i + 1) - frN b o r i)) ∧ Below wx.heap.size wx w' ∧ (0 < frN b o r (i + 1) - frN b o r i → xo = some ⟨gl, frN b o r i, none⟩)) := fun i gl wx hi =>
  (part_spec b o r i hC hi (some ⟨gl, 0, none⟩) (b - r) (b - r) rfl (Nat.le_refl _) (fun e => by cases e) _ wx).mono fun e w' hh => by
   obtain ⟨xo, h1, h2, h3, h4, h5⟩ := hh
   exact ⟨xo, h1, h2, fun hpos => by rw [h4 gl 0 rfl hpos, Nat.zero_add]⟩
 have HFB : Hid (∀ i, i < 2 ^ o → frN b o r i ≤ frN b o r (i + 1) ∧ frN b o r (i + 1) ≤ b - r) := fun i hi => ⟨frN_mono b o r i, frN_bound hC (i + 1) hi⟩
 have HFT : Hid (frN b o r (2 ^ o) = b - r) := hC.total
 clear ht hok hC hdv
 generalize hpn : 2 ^ o = N at *
 generalize b / N = d at *
 generalize hTT : b - r = T at *
 have hT : T ≤ 65535 := by omega
 clear hpn hTT
 have hn32 := hp.2
 go_enter Tryz.func201, Tryz.ntmps201
 go_wp2_with (go_at_call 209; refine (KA.out _).mono ?_; rintro e w' ⟨rfl, rfl⟩)
 generalize hwa : w.alloc _ = wa at *
 have hwz : w.heap.size < wa.heap.size := lt_of_block HX0.out
 clear hwa
 refine (KH.out wa HR0.out).mono ?_
 rintro e w2 ⟨gp, ge, rfl, h2, h3, h4, h5, h6, h7, h8⟩
 have HS2 : Hid (Stays (only q) w w2) := (Stays.of_below HB0.out _).trans h8 (fun _ _ h => h)
 have HX2 : Hid (w2.heap[w.heap.size]? = some (.cells #[.int .i64 0, .int .i64 0, .slice none 0 0, .slice none 0 0] 65 (0, 0))) := by show _ = _; rw [h8.block _ hwz (fun e => by unfold only at e; omega)]; exact HX0.out
 have hz2 : w.heap.size < w2.heap.size := lt_of_block HX2.out
 have hgp2 := h3.lt
 have hge2 := h4.lt
 have HR2 : Hid (Rd w2 q s a1) := h2
 have HP2 : Hid (IntsBlk w2 gp (List.replicate N 0)) := h3
 have HE2 : Hid (IntsBlk w2 ge (List.replicate N 0)) := h4
 clear h2 h3 h4 h8 HX0 HR0 HB0
 have HB3 : Hid (Below w2.heap.size w2 ((w2.alloc (.cells #[.int .i64 m, .int .i64 (o : Int), .slice (some ⟨gp, 0, none⟩) N N, .slice (some ⟨ge, 0, none⟩) N N] 65)).alloc (.cells #[.int .i64 (N : Int), .int .i64 (d : Int), .int .i64 (r : Int)] 219))) := ((Below.refl _ _).alloc (Nat.le_refl _) _).alloc (by simp) _
 have HK3 : Hid (((w2.alloc (.cells #[.int .i64 m, .int .i64 (o : Int), .slice (some ⟨gp, 0, none⟩) N N, .slice (some ⟨ge, 0, none⟩) N N] 65)).alloc (.cells #[.int .i64 (N : Int), .int .i64 (d : Int), .int .i64 (r : Int)] 219)).heap[w2.heap.size]? = some (.cells #[.int .i64 m, .int .i64 (o : Int), .slice (some ⟨gp, 0, none⟩) N N, .slice (some ⟨ge, 0, none⟩) N N] 65 (0, 0))) := heap_two _ _ _
 have HC3 : Hid (((w2.alloc (.cells #[.int .i64 m, .int .i64 (o : Int), .slice (some ⟨gp, 0, none⟩) N N, .slice (some ⟨ge, 0, none⟩) N N] 65)).alloc (.cells #[.int .i64 (N : Int), .int .i64 (d : Int), .int .i64 (r : Int)] 219)).heap[w2.heap.size + 1]? = some (.cells #[.int .i64 (N : Int), .int .i64 (d : Int), .int .i64 (r : Int)] 219 (0, 0))) := by
  have hh := heap_alloc_new (w2.alloc (.cells #[.int .i64 m, .int .i64 (o : Int), .slice (some ⟨gp, 0, none⟩) N N, .slice (some ⟨ge, 0, none⟩) N N] 65)) (.cells #[.int .i64 (N : Int), .int .i64 (d : Int), .int .i64 (r : Int)] 219)
  rw [show (w2.alloc (.cells #[.int .i64 m, .int .i64 (o : Int), .slice (some ⟨gp, 0, none⟩) N N, .slice (some ⟨ge, 0, none⟩) N N] 65)).heap.size = w2.heap.size + 1 from by simp] at hh
  exact hh
 go_wp2_with fail
 generalize hw3 : World.alloc (World.alloc _ _) _ = w3 at *
 clear hw3
 generalize hk : w2.heap.size = k at *
 refine (KN.out w3).mono ?_
 rintro e w4 ⟨rfl, hb4⟩
 have HKW : Hid (w2.heap.size = k) := hk
 have hkw3 : k ≤ w3.heap.size := by have := HB3.out.size; omega
 have HB4 : Hid (Below k w2 w4) := HB3.out.trans (hb4.mono hkw3)
 clear hk
 have hkc : k + 1 < w4.heap.size := Nat.lt_of_lt_of_le (lt_of_block HC3.out) hb4.size
 have HK4 : Hid (w4.heap[k]? = some (.cells #[.int .i64 m, .int .i64 (o : Int), .slice (some ⟨gp, 0, none⟩) N N, .slice (some ⟨ge, 0, none⟩) N N] 65 (0, 0))) := by show _ = _; rw [hb4.block _ (lt_of_block HK3.out)]; exact HK3.out
 have HC4 : Hid (w4.heap[k + 1]? = some (.cells #[.int .i64 (N : Int), .int .i64 (d : Int), .int .i64 (r : Int)] 219 (0, 0))) := by show _ = _; rw [hb4.block _ (lt_of_block HC3.out)]; exact HC3.out
 clear HK3 HC3 hb4 HB3
 have HB5 : Hid (Below w4.heap.size w4 (w4.alloc (.cells (madeCells #[.int .i64 0] T) 3))) := (Below.refl _ _).alloc (Nat.le_refl _) _
 have HL5 : Hid (IntsBlk (w4.alloc (.cells (madeCells #[.int .i64 0] T) 3)) w4.heap.size (List.replicate T 0)) := IntsBlk.made w4 T
 have hgl : k + 1 < w4.heap.size := hkc
 have HD : Hid (DD w.heap.size q k gp ge w4.heap.size (k + 1)) := ⟨by omega, by omega, by omega, by omega, by omega, by omega, by omega, by omega, by omega, by omega, h5, by omega, by omega, by omega, by omega, by omega⟩
 have hcc0 : (w4.alloc (.cells (madeCells #[.int .i64 0] T) 3)).heap[k + 1]? = some (.cells #[.int .i64 (N : Int), .int .i64 (d : Int), .int .i64 (r : Int)] 219 (0, 0)) := by rw [HB5.out.block _ hkc]; exact HC4.out
 have hc0 : (w4.alloc (.cells (madeCells #[.int .i64 0] T) 3)).cell? ⟨k + 1, 0, none⟩ = some (.int .i64 (N : Int)) := by rw [cell_of_row _ _ _ _ _ _ hcc0]; rfl
 have HJ : Hid (DJ w q s k gp ge w4.heap.size (k + 1) N m (o : Int) d r (List.replicate N 0) (List.replicate N 0) (List.replicate T 0) a1 (w4.alloc (.cells (madeCells #[.int .i64 0] T) 3))) := by
  have hbb : Below w2.heap.size w2 (w4.alloc (.cells (madeCells #[.int .i64 0] T) 3)) := by
   rw [HKW.out]
   exact HB4.out.trans (HB5.out.mono (by omega))
  exact ⟨⟨HR2.out.below hbb, by rw [HB5.out.block _ (lt_of_block HK4.out)]; exact HK4.out, HP2.out.below hbb, HE2.out.below hbb, List.length_replicate, List.length_replicate, hn32, ha1⟩, HL5.out, hcc0, by rw [hbb.block _ (lt_of_block HX2.out)]; exact HX2.out, HS2.out.trans (Stays.of_below hbb _) (fun _ _ h => h)⟩
 clear hcc0 HB5 HL5 HK4 HC4 HB4 HR2 HP2 HE2 HX2 HS2
 go_wp2_with fail
 clear hc0
 generalize hw5 : World.alloc _ _ = w5 at *
 generalize w4.heap.size = gl at *
 clear hw5
 generalize hcq : k + 1 = cq at *
 clear hcq
 go_loopw [13, 44] (fun s13 s44 wr => ∃ (j : Nat) (dj : Dec), j ≤ N ∧ s44 = .int .i64 (j : Int) ∧ rdParts s m b o r j a1 = some dj ∧ DJ w q s k gp ge gl cq N m (o : Int) d r (dj.P ++ List.replicate (N - j) 0) (dj.E ++ List.replicate (N - j) 0) (dj.L ++ List.replicate (T - frN b o r j) 0) dj.a wr) (fun _ s44 _ => N - (intOf s44).toNat)
 case atStart => exact ⟨0, ⟨[], [], [], a1⟩, Nat.zero_le _, rfl, rfl, by rw [frN_zero]; exact HJ.out⟩
 case round =>
  clear HJ
  obtain ⟨j, dj, hj, rfl, hrp, hdj⟩ := hrel
  have HRP : Hid (rdParts s m b o r j a1 = some dj) := hrp
  have HJ : Hid (DJ w q s k gp ge gl cq N m (o : Int) d r (dj.P ++ List.replicate (N - j) 0) (dj.E ++ List.replicate (N - j) 0) (dj.L ++ List.replicate (T - frN b o r j) 0) dj.a wr) := hdj
  obtain ⟨lL, lP, lE⟩ := rdParts_len hrp
  clear hrp hdj
  obtain ⟨PP, hPP⟩ : ∃ PP, dj.P ++ List.replicate (N - j) 0 = PP := ⟨_, rfl⟩
  obtain ⟨EE, hEE⟩ : ∃ EE, dj.E ++ List.replicate (N - j) 0 = EE := ⟨_, rfl⟩
  obtain ⟨LL, hLL⟩ : ∃ LL, dj.L ++ List.replicate (T - frN b o r j) 0 = LL := ⟨_, rfl⟩
  rw [hPP, hEE, hLL] at HJ
  have HSJ : Hid (∀ P E L a' wx, Hid (DJ w q s k gp ge gl cq N m (o : Int) d r P E L a' wx) → (wx.cell? ⟨k, 0, none⟩ = some (.int .i64 m) ∧ wx.cell? ⟨k, 1, none⟩ = some (.int .i64 (o : Int)) ∧ wx.cell? ⟨k, 2, none⟩ = some (.slice (some ⟨gp, 0, none⟩) N N) ∧ wx.cell? ⟨k, 3, none⟩ = some (.slice (some ⟨ge, 0, none⟩) N N) ∧ wx.cell? ⟨cq, 0, none⟩ = some (.int .i64 (N : Int)) ∧ wx.cell? ⟨cq, 1, none⟩ = some (.int .i64 (d : Int)) ∧ wx.cell? ⟨cq, 2, none⟩ = some (.int .i64 (r : Int)))) := fun P E L a' wx hh => hh.out.cells
  have HSD : Hid (∀ wx, Hid (DK w q k gp ge cq N m (o : Int) d r wx) → (wx.cell? ⟨k, 0, none⟩ = some (.int .i64 m) ∧ wx.cell? ⟨k, 1, none⟩ = some (.int .i64 (o : Int)) ∧ wx.cell? ⟨k, 2, none⟩ = some (.slice (some ⟨gp, 0, none⟩) N N) ∧ wx.cell? ⟨k, 3, none⟩ = some (.slice (some ⟨ge, 0, none⟩) N N) ∧ wx.cell? ⟨cq, 0, none⟩ = some (.int .i64 (N : Int)) ∧ wx.cell? ⟨cq, 1, none⟩ = some (.int .i64 (d : Int)) ∧ wx.cell? ⟨cq, 2, none⟩ = some (.int .i64 (r : Int)))) := fun wx hh => hh.out.cells
  by_cases hlt : j < N
  ·obtain ⟨hf1, hf2⟩ := HFB.out j hlt
   cases hhd : rdHead s dj.a m with
   | none =>
    have HNO : Hid (decP s a b r = none) := HDP0.out (j + 1) (by omega) (rdParts_head HRP.out hhd)
    have KH : Hid (∀ wx, Hid (DJ w q s k gp ge gl cq N m (o : Int) d r PP EE LL dj.a wx) → Calls Tryz.prog 223 #[.pointer (some ⟨q, 0, none⟩), .pointer (some ⟨k, 0, none⟩), .int .i64 (j : Int)] wx fun en w' => en = .returned (.bool false) ∧ Hid (DK w q k gp ge cq N m (o : Int) d r w')) := fun wx hh => (head_no q s hs k gp ge N m (o : Int) _ _ dj.a j hm0 hm1 hlt HD.out.dist wx hh.out.ds hhd).mono fun e w' hx => ⟨hx.1, hh.out.dk HD.out hx.2 (fun b hb => by rcases hb with e | e | e <;> omega)⟩
    clear hhd
    have HJd : Hid (DJ w q s k gp ge gl cq N m (o : Int) d r PP EE LL dj.a wr.drew) := HJ.out.low ⟨rfl, rfl, rfl, Nat.le_refl _, fun _ _ => rfl⟩
    clear HJ
    go_wp2_with fail
    refine wp_region_held_drew (S := fun _ => True) (by kernel_rfl) trivial (fun hS => ?_)
    refine vQ 0 (.pointer (some ⟨q, 0, none⟩)) trivial ?_
    simp only [SL]
    refine vQ 1 (.int .i64 (j : Int)) trivial ?_
    simp only [SL]
    refine wpAnyH_ready (rs := [2]) (by kernel_rfl) (by simp) ?_
    refine AllReadyH.cons rfl (fun K hK => ?_) AllReadyH.nil
    go_simp
    refine (KH.out _ HJd).mono ?_
    rintro e w6 ⟨rfl, h6⟩
    refine hK.out _ _ trivial (fun hS6 => ?_)
    clear hK K
    refine vQ 3 (.bool true) trivial ?_
    simp only [SL]
    refine vQ 4 (.bool true) trivial ?_
    simp only [SL]
    refine wQ 5 trivial ?_
    simp only [SL]
    refine wQ 6 trivial ?_
    simp only [SL]
    refine wQ 7 trivial ?_
    simp only [SL]
    refine wQ 8 trivial ?_
    simp only [SL]
    refine wQ 9 trivial ?_
    simp only [SL]
    refine wQ 10 trivial ?_
    simp only [SL]
    refine wQ 11 trivial ?_
    simp only [SL]
    refine wQ 12 trivial ?_
    simp only [SL]
    refine wQ 13 trivial ?_
    simp only [SL]
    refine vQ 14 (.bool true) trivial ?_
    simp only [SL]
    refine wpAnyH_done (by kernel_rfl) ?_ _
    have hx6 := h6.out.rb
    have u0 : w6.cell? ⟨w.heap.size, 0, none⟩ = some (.int .i64 0) := by rw [cell_of_row _ _ _ _ _ _ hx6]; rfl
    have fu0 : w6.frozen? ⟨w.heap.size, 0, none⟩ = false := by simp [World.frozen?, hx6]
    have u1 : w6.cell? ⟨w.heap.size, 1, none⟩ = some (.int .i64 0) := by rw [cell_of_row _ _ _ _ _ _ hx6]; rfl
    have fu1 : w6.frozen? ⟨w.heap.size, 1, none⟩ = false := by simp [World.frozen?, hx6]
    have u2 : w6.cell? ⟨w.heap.size, 2, none⟩ = some (.slice none 0 0) := by rw [cell_of_row _ _ _ _ _ _ hx6]; rfl
    have fu2 : w6.frozen? ⟨w.heap.size, 2, none⟩ = false := by simp [World.frozen?, hx6]
    have u3 : w6.cell? ⟨w.heap.size, 3, none⟩ = some (.slice none 0 0) := by rw [cell_of_row _ _ _ _ _ _ hx6]; rfl
    have fu3 : w6.frozen? ⟨w.heap.size, 3, none⟩ = false := by simp [World.frozen?, hx6]
    clear hx6
    go_wp2_with fail
    generalize hwf : World.setCell _ _ _ = wf
    have hH : wf.heap[w.heap.size]? = some (.cells #[.int .i64 0, .int .i64 0, .slice none 0 0, .slice none 0 0] 65 (0, 0)) := by rw [← hwf]; exact set4_a _ _ _ _ _ h6.out.rb
    have hS : Stays (only q) w wf := by rw [← hwf]; exact set4_c _ _ _ _ _ _ _ (Nat.le_refl _) h6.out.st
    refine bodyPost_ret (v := .tuple #[.slice none 0 0, zRice, .int .i64 2]) ?_ rfl (DPost.none_ HNO.out ⟨rfl, hS⟩)
    rw [results_mid rfl]
    have hl0 := run_loadVar_row (P := Tryz.prog) wf (w.heap.size) 65 65 #[.int .i64 0, .int .i64 0, .slice none 0 0, .slice none 0 0] (0, 0) _ hH Tryz.underlying65 rfl info_Rice
    simp [asAddr, Result.andThen, hl0]
   | some tr =>
    obtain ⟨kk, ee, a2⟩ := tr
    have hmay := rdHead_may hm0 hm1 hhd
    have hhz : PP.getD j 0 = 0 := by
     have := getD_zero dj.P (N - j)
     rw [lP] at this
     rw [← hPP]; exact this
    have ePP : PP.set j kk = dj.P ++ [kk] ++ List.replicate (N - (j + 1)) 0 := by
     have := set_next dj.P (N - j) kk (by omega)
     rw [lP] at this
     rw [← hPP, this, show N - j - 1 = N - (j + 1) by omega]
    have eEE : EE.set j ee = dj.E ++ [ee] ++ List.replicate (N - (j + 1)) 0 := by
     have := set_next dj.E (N - j) ee (by omega)
     rw [lE] at this
     rw [← hEE, this, show N - j - 1 = N - (j + 1) by omega]
    have gP : (dj.P ++ [kk] ++ List.replicate (N - (j + 1)) 0).getD j 0 = kk := by
     have := getD_next dj.P (List.replicate (N - (j + 1)) 0) kk
     rw [lP] at this; exact this
    have gE : (dj.E ++ [ee] ++ List.replicate (N - (j + 1)) 0).getD j 0 = ee := by
     have := getD_next dj.E (List.replicate (N - (j + 1)) 0) ee
     rw [lE] at this; exact this
    have eLL : LL = dj.L ++ List.replicate (frN b o r (j + 1) - frN b o r j) 0 ++ List.replicate (T - frN b o r (j + 1)) 0 := by
     rw [← hLL, List.append_assoc, List.replicate_append_replicate, show frN b o r (j + 1) - frN b o r j + (T - frN b o r (j + 1)) = T - frN b o r j by omega]
    have ha2 := rdHead_le HJ.out.ds.al hhd
    have KH : Hid (∀ wx, Hid (DJ w q s k gp ge gl cq N m (o : Int) d r PP EE LL dj.a wx) → Calls Tryz.prog 223 #[.pointer (some ⟨q, 0, none⟩), .pointer (some ⟨k, 0, none⟩), .int .i64 (j : Int)] wx fun en w' => en = .returned (.bool true) ∧ Hid (DJ w q s k gp ge gl cq N m (o : Int) d r (dj.P ++ [kk] ++ List.replicate (N - (j + 1)) 0) (dj.E ++ [ee] ++ List.replicate (N - (j + 1)) 0) LL a2 w')) := fun wx hh => (head_yes q s hs k gp ge N m (o : Int) _ _ dj.a j hm0 hm1 hlt HD.out.dist wx hh.out.ds kk ee a2 hhz hhd).mono fun e w' hx => ⟨hx.1, hh.out.head HD.out (by rw [← ePP, ← eEE]; exact hx.2.1) hx.2.2⟩
    have KP : Hid (∀ P E L a' wx, Hid (DJ w q s k gp ge gl cq N m (o : Int) d r P E L a' wx) → Calls Tryz.prog 195 #[cutV (N : Int) (d : Int) (r : Int), .slice (some ⟨gl, 0, none⟩) T T, .int .i64 (j : Int)] wx fun e w' => ∃ xo, e = .returned (.slice xo (frN b o r (j + 1) - frN b o r j) (frN b o r (j + 1) - frN b o r j)) ∧ Hid (DJ w q s k gp ge gl cq N m (o : Int) d r P E L a' w') ∧ Hid (0 < frN b o r (j + 1) - frN b o r j → xo = some ⟨gl, frN b o r j, none⟩)) := fun P E L a' wx hh => (HKP.out j gl wx hlt).mono fun e w' hx => by
     obtain ⟨xo, h1, h2, h3⟩ := hx
     exact ⟨xo, h1, hh.out.low h2, h3⟩
    have KR : Hid (∀ wx xo, Hid (DJ w q s k gp ge gl cq N m (o : Int) d r (dj.P ++ [kk] ++ List.replicate (N - (j + 1)) 0) (dj.E ++ [ee] ++ List.replicate (N - (j + 1)) 0) LL a2 wx) → Hid (0 < frN b o r (j + 1) - frN b o r j → xo = some ⟨gl, frN b o r j, none⟩) → Calls Tryz.prog 224 #[.pointer (some ⟨q, 0, none⟩), .agg #[.int .i64 m, .int .i64 (o : Int), .slice (some ⟨gp, 0, none⟩) N N, .slice (some ⟨ge, 0, none⟩) N N], .int .i64 (j : Int), .slice xo (frN b o r (j + 1) - frN b o r j) (frN b o r (j + 1) - frN b o r j)] wx fun en w' => RPost (rdAll s kk ee (frN b o r (j + 1) - frN b o r j) a2) (en = .returned (.bool false) ∧ Hid (DK w q k gp ge cq N m (o : Int) d r w')) (fun X a3 => en = .returned (.bool true) ∧ Hid (DJ w q s k gp ge gl cq N m (o : Int) d r (dj.P ++ [kk] ++ List.replicate (N - (j + 1)) 0) (dj.E ++ [ee] ++ List.replicate (N - (j + 1)) 0) (dj.L ++ X ++ List.replicate (T - frN b o r (j + 1)) 0) a3 w'))) := fun wx xo hh hxo => by
     have hD := HD.out
     have kr := rpart_spec q s hs k gp ge gl N m (o : Int) _ _ a2 j hlt hD.dist (by have := hD.hq; have := hD.hl; omega) (fun e => hD.kl e.symm) (fun e => hD.pl e.symm) (fun e => hD.el e.symm) (frN b o r (j + 1) - frN b o r j) (by omega) dj.L (List.replicate (T - frN b o r (j + 1)) 0) xo (frN b o r (j + 1) - frN b o r j) (by rw [lL]; exact hxo.out) (by rw [gP, gE]; exact hmay) hm1 wx hh.out.ds (by rw [← eLL]; exact hh.out.bl)
     rw [gP, gE] at kr
     refine kr.mono (fun e w' hx => ?_)
     cases hra : rdAll s kk ee (frN b o r (j + 1) - frN b o r j) a2 with
     | none =>
      rw [hra] at hx
      exact ⟨hx.1, hh.out.dk hD hx.2 (fun b hb => by rcases hb with e | e <;> omega)⟩
     | some pr =>
      obtain ⟨X, a3⟩ := pr
      rw [hra] at hx
      exact ⟨hx.1, hh.out.nums hD hx.2.1 hx.2.2.1 hx.2.2.2⟩
    have HJd : Hid (DJ w q s k gp ge gl cq N m (o : Int) d r PP EE LL dj.a wr.drew) := HJ.out.low ⟨rfl, rfl, rfl, Nat.le_refl _, fun _ _ => rfl⟩
    have HHD : Hid (rdHead s dj.a m = some (kk, ee, a2)) := hhd
    clear HJ hhd hhz ePP eEE eLL gP gE hmay
    cases hra : rdAll s kk ee (frN b o r (j + 1) - frN b o r j) a2 with
    | none =>
     have HNO : Hid (decP s a b r = none) := HDP0.out (j + 1) (by omega) (rdParts_nums HRP.out HHD.out hra)
     rw [hra] at KR
     clear hra
     go_wp2_with fail
     go_region_held3 (fun wx => (wx.cell? ⟨k, 0, none⟩ = some (.int .i64 m) ∧ wx.cell? ⟨k, 1, none⟩ = some (.int .i64 (o : Int)) ∧ wx.cell? ⟨k, 2, none⟩ = some (.slice (some ⟨gp, 0, none⟩) N N) ∧ wx.cell? ⟨k, 3, none⟩ = some (.slice (some ⟨ge, 0, none⟩) N N) ∧ wx.cell? ⟨cq, 0, none⟩ = some (.int .i64 (N : Int)) ∧ wx.cell? ⟨cq, 1, none⟩ = some (.int .i64 (d : Int)) ∧ wx.cell? ⟨cq, 2, none⟩ = some (.int .i64 (r : Int)))) (first | exact HSJ.out _ _ _ _ _ (by assumption) | exact HSD.out _ (by assumption))
      (first
       | (go_at_call 223; refine (KH.out _ (by assumption)).mono ?_; rintro e w6 ⟨rfl, h6⟩)
       | (go_at_call 195; refine (KP.out _ _ _ _ _ (by assumption)).mono ?_; rintro e w7 ⟨xo, rfl, h7, h7x⟩)
       | (go_at_call 224; refine (KR.out _ _ (by assumption) (by assumption)).mono ?_; rintro e w8 ⟨rfl, h8⟩))
     have hx8 := h8.out.rb
     have u0 : w8.cell? ⟨w.heap.size, 0, none⟩ = some (.int .i64 0) := by rw [cell_of_row _ _ _ _ _ _ hx8]; rfl
     have fu0 : w8.frozen? ⟨w.heap.size, 0, none⟩ = false := by simp [World.frozen?, hx8]
     have u1 : w8.cell? ⟨w.heap.size, 1, none⟩ = some (.int .i64 0) := by rw [cell_of_row _ _ _ _ _ _ hx8]; rfl
     have fu1 : w8.frozen? ⟨w.heap.size, 1, none⟩ = false := by simp [World.frozen?, hx8]
     have u2 : w8.cell? ⟨w.heap.size, 2, none⟩ = some (.slice none 0 0) := by rw [cell_of_row _ _ _ _ _ _ hx8]; rfl
     have fu2 : w8.frozen? ⟨w.heap.size, 2, none⟩ = false := by simp [World.frozen?, hx8]
     have u3 : w8.cell? ⟨w.heap.size, 3, none⟩ = some (.slice none 0 0) := by rw [cell_of_row _ _ _ _ _ _ hx8]; rfl
     have fu3 : w8.frozen? ⟨w.heap.size, 3, none⟩ = false := by simp [World.frozen?, hx8]
     clear hx8
     go_wp2_with fail
     generalize hwf : World.setCell _ _ _ = wf
     have hH : wf.heap[w.heap.size]? = some (.cells #[.int .i64 0, .int .i64 0, .slice none 0 0, .slice none 0 0] 65 (0, 0)) := by rw [← hwf]; exact set4_a _ _ _ _ _ h8.out.rb
     have hS : Stays (only q) w wf := by rw [← hwf]; exact set4_c _ _ _ _ _ _ _ (Nat.le_refl _) h8.out.st
     refine bodyPost_ret (v := .tuple #[.slice none 0 0, zRice, .int .i64 2]) ?_ rfl (DPost.none_ HNO.out ⟨rfl, hS⟩)
     rw [results_mid rfl]
     have hl0 := run_loadVar_row (P := Tryz.prog) wf (w.heap.size) 65 65 #[.int .i64 0, .int .i64 0, .slice none 0 0, .slice none 0 0] (0, 0) _ hH Tryz.underlying65 rfl info_Rice
     simp [asAddr, Result.andThen, hl0]
    | some pr =>
     obtain ⟨X, a3⟩ := pr
     have HNX := rdParts_some HRP.out HHD.out hra
     have HNX' : Hid (rdParts s m b o r (j + 1) a1 = some ⟨dj.L ++ X, dj.P ++ [kk], dj.E ++ [ee], a3⟩) := HNX
     rw [hra] at KR
     clear hra HNX
     go_wp2_with fail
     go_region_held3 (fun wx => (wx.cell? ⟨k, 0, none⟩ = some (.int .i64 m) ∧ wx.cell? ⟨k, 1, none⟩ = some (.int .i64 (o : Int)) ∧ wx.cell? ⟨k, 2, none⟩ = some (.slice (some ⟨gp, 0, none⟩) N N) ∧ wx.cell? ⟨k, 3, none⟩ = some (.slice (some ⟨ge, 0, none⟩) N N) ∧ wx.cell? ⟨cq, 0, none⟩ = some (.int .i64 (N : Int)) ∧ wx.cell? ⟨cq, 1, none⟩ = some (.int .i64 (d : Int)) ∧ wx.cell? ⟨cq, 2, none⟩ = some (.int .i64 (r : Int)))) (first | exact HSJ.out _ _ _ _ _ (by assumption) | exact HSD.out _ (by assumption))
      (first
       | (go_at_call 223; refine (KH.out _ (by assumption)).mono ?_; rintro e w6 ⟨rfl, h6⟩)
       | (go_at_call 195; refine (KP.out _ _ _ _ _ (by assumption)).mono ?_; rintro e w7 ⟨xo, rfl, h7, h7x⟩)
       | (go_at_call 224; refine (KR.out _ _ (by assumption) (by assumption)).mono ?_; rintro e w8 ⟨rfl, h8⟩))
     go_wp2_with fail
     go_roundw
     case rel => exact ⟨j + 1, ⟨dj.L ++ X, dj.P ++ [kk], dj.E ++ [ee], a3⟩, by omega, by go_num, HNX'.out, h8.out⟩
     case measure => simp [intOf]; omega
  ·have hjn : j = N := by omega
   subst hjn
   have HYS : Hid (decP s a b r = some (⟨m, o, dj.P, dj.E⟩, dj.L, dj.a)) := HDP1.out dj HRP.out
   have eP : PP = dj.P := by rw [← hPP, Nat.sub_self, List.replicate_zero, List.append_nil]
   have eE : EE = dj.E := by rw [← hEE, Nat.sub_self, List.replicate_zero, List.append_nil]
   have eL : LL = dj.L := by rw [← hLL, HFT.out, Nat.sub_self, List.replicate_zero, List.append_nil]
   have HLT : Hid (dj.L.length = T) := by show _ = _; rw [lL, HFT.out]
   rw [eP, eE, eL] at HJ
   have HLP : Hid (dj.P.length = j ∧ dj.E.length = j) := ⟨lP, lE⟩
   have hxr := HJ.out.rb
   have u0 : wr.cell? ⟨w.heap.size, 0, none⟩ = some (.int .i64 0) := by rw [cell_of_row _ _ _ _ _ _ hxr]; rfl
   have fu0 : wr.frozen? ⟨w.heap.size, 0, none⟩ = false := by simp [World.frozen?, hxr]
   have u1 : wr.cell? ⟨w.heap.size, 1, none⟩ = some (.int .i64 0) := by rw [cell_of_row _ _ _ _ _ _ hxr]; rfl
   have fu1 : wr.frozen? ⟨w.heap.size, 1, none⟩ = false := by simp [World.frozen?, hxr]
   have u2 : wr.cell? ⟨w.heap.size, 2, none⟩ = some (.slice none 0 0) := by rw [cell_of_row _ _ _ _ _ _ hxr]; rfl
   have fu2 : wr.frozen? ⟨w.heap.size, 2, none⟩ = false := by simp [World.frozen?, hxr]
   have u3 : wr.cell? ⟨w.heap.size, 3, none⟩ = some (.slice none 0 0) := by rw [cell_of_row _ _ _ _ _ _ hxr]; rfl
   have fu3 : wr.frozen? ⟨w.heap.size, 3, none⟩ = false := by simp [World.frozen?, hxr]
   obtain ⟨y0, y1, y2, y3, z0, z1, z2⟩ := HJ.out.cells
   have hkn : ¬ k = w.heap.size := by have := HD.out.hk; omega
   clear hxr lL lP lE eP eE eL hPP hEE hLL
   go_wp2_with fail
   go_region
   go_wp2_with fail
   generalize hwf : World.setCell _ _ _ = wf
   have hH : wf.heap[w.heap.size]? = some (.cells #[.int .i64 m, .int .i64 (o : Int), .slice (some ⟨gp, 0, none⟩) j j, .slice (some ⟨ge, 0, none⟩) j j] 65 (0, 0)) := by rw [← hwf]; exact set4_a _ _ _ _ _ HJ.out.rb
   have hS : Stays (only q) w wf := by rw [← hwf]; exact set4_c _ _ _ _ _ _ _ (Nat.le_refl _) HJ.out.st
   have hO : ∀ i, i ≠ w.heap.size → wf.heap[i]? = wr.heap[i]? := fun i hi => by rw [← hwf]; exact set4_d _ _ _ _ _ i hi
   have hD := HD.out
   refine bodyPost_ret (v := .tuple #[.slice (some ⟨gl, 0, none⟩) T T, .agg #[.int .i64 m, .int .i64 (o : Int), .slice (some ⟨gp, 0, none⟩) j j, .slice (some ⟨ge, 0, none⟩) j j], .int .i64 0]) ?_ rfl (DPost.some_ HYS.out ⟨gl, gp, ge, ?_, ?_, ?_, ?_, Nat.le_of_lt hD.hl, Nat.le_of_lt hD.hp, Nat.le_of_lt hD.he, ?_, HJ.out.ds.al, hS.drew⟩)
   ·rw [results_mid rfl]
    have hl0 := run_loadVar_row (P := Tryz.prog) wf.drew (w.heap.size) 65 65 #[.int .i64 m, .int .i64 (o : Int), .slice (some ⟨gp, 0, none⟩) j j, .slice (some ⟨ge, 0, none⟩) j j] (0, 0) _ hH Tryz.underlying65 rfl info_Rice
    simp [asAddr, Result.andThen, hl0]
   ·show _ = Ending.returned (.tuple #[.slice (some ⟨gl, 0, none⟩) dj.L.length dj.L.length, .agg #[.int .i64 m, .int .i64 (o : Int), .slice (some ⟨gp, 0, none⟩) dj.P.length dj.P.length, .slice (some ⟨ge, 0, none⟩) dj.E.length dj.E.length], .int .i64 0])
    rw [HLT.out, HLP.out.1, HLP.out.2]
   ·show IntsBlk wf gl dj.L
    unfold IntsBlk; rw [hO gl (by have := hD.hl; omega)]; exact HJ.out.bl
   ·show IntsBlk wf gp dj.P
    unfold IntsBlk; rw [hO gp (by have := hD.hp; omega)]; exact HJ.out.ds.bp
   ·show IntsBlk wf ge dj.E
    unfold IntsBlk; rw [hO ge (by have := hD.he; omega)]; exact HJ.out.ds.be
   ·show Rd wf q s dj.a
    unfold Rd; rw [hO q (by have := hD.hq; omega)]; exact HJ.out.ds.rd
end Go.Proofs.YtfpfabmbipmipaaGreatDoor
