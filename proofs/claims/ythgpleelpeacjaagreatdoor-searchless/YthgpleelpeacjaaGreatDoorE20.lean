/- Own text. -/
import Derived.Test.YthgpleelpeacjaaGreatDoorE19
set_option linter.unusedSimpArgs false
set_option linter.unusedVariables false
set_option maxRecDepth 20000
set_option maxHeartbeats 12800000
namespace Go.Proofs.YthgpleelpeacjaaGreatDoor
open Go.RowKit
theorem cod_info : ∃ i, Tryz.prog.info? 63 = some i ∧ i.zero = some (.agg #[.int .i64 0, .slice none 0 0, .int .i64 0]) ∧ i.size = 3 ∧ i.bytes = 40 := by
 have h : (Tryz.prog.info? 63).map (fun i => (i.zero, i.size, i.bytes)) = some (some (.agg #[.int .i64 0, .slice none 0 0, .int .i64 0]), 3, 40) := by kernel_rfl
 cases hq : Tryz.prog.info? 63 with
 | none => rw [hq] at h; cases h
 | some i =>
  rw [hq] at h
  simp only [Option.map_some, Option.some.injEq, Prod.mk.injEq] at h
  exact ⟨i, rfl, h.1, h.2.1, h.2.2⟩
theorem undCods : Tryz.prog.underlying 115 = some (.slice 63) := by kernel_rfl
def Off (v : Value) (X : World) (k : Nat) : Prop := k < X.heap.size ∧ v.ownBlock ≠ some k
section
variable {v v' : Value} {X X' w1 : World} {k g n c : Nat}
theorem Off.low (h : Off v X k) (hb : Below X.heap.size X X') : Off v X' k := ⟨Nat.lt_of_lt_of_le h.1 hb.size, h.2⟩
theorem Off.push (h : Off v X k) (hg : X.grownBy w1 v.ownBlock) (hat : v.ownBlock = some g ∨ g = X.heap.size) : Off (.slice (some ⟨g, 0, none⟩) n c) w1 k ∧ w1.heap[k]? = X.heap[k]? := by
 refine ⟨⟨Nat.lt_of_lt_of_le h.1 hg.size, fun e => ?_⟩, hg.block k h.1 (fun e => h.2 e.symm)⟩
 have e3 : g = k := by simpa [Value.ownBlock] using e
 rcases hat with h1 | h1
 ·exact h.2 (by rw [h1, e3])
 ·have := h.1; omega
end
structure IOff (v : Value) (X : World) (a : Option Addr) (l : List Int) : Prop where
 i : IntsAt X a l
 o : 0 < l.length → ∀ b, blockOf a = some b → Off v X b
section
variable {v : Value} {X X' w1 : World} {a : Option Addr} {l : List Int} {g n c : Nat}
theorem IOff.low (h : IOff v X a l) (hb : Below X.heap.size X X') : IOff v X' a l := ⟨h.i.below hb, fun h0 b e => (h.o h0 b e).low hb⟩
theorem IOff.push (h : IOff v X a l) (hg : X.grownBy w1 v.ownBlock) (hat : v.ownBlock = some g ∨ g = X.heap.size) : IOff (.slice (some ⟨g, 0, none⟩) n c) w1 a l := by
 refine ⟨⟨h.i.len, h.i.num, fun h0 => ?_⟩, fun h0 b e => ((h.o h0 b e).push hg hat).1⟩
 obtain ⟨b, off, e, hc⟩ := h.i.lies h0
 refine ⟨b, off, e, fun j hj => ?_⟩
 rw [World.cell?_of_block (w := X) ((h.o h0 b (by rw [e]; rfl)).push (n := n) (c := c) hg hat).2]
 exact hc j hj
theorem IOff.nil (v : Value) (X : World) : IOff v X none [] := ⟨IntsAt.nil _, fun h0 => absurd h0 (Nat.lt_irrefl 0)⟩
theorem IntsAt.off (h : IntsAt X a l) (hv : ∀ k, v.ownBlock = some k → k < n) (hn : 0 < l.length → ∀ b, blockOf a = some b → n ≤ b) : IOff v X a l := by
 refine ⟨h, fun h0 b e => ⟨?_, fun e2 => ?_⟩⟩
 ·obtain ⟨b', off, e', hc⟩ := h.lies h0
  rw [e'] at e
  have : b' = b := by simpa [blockOf] using e
  rw [← this]; exact lt_cell (hc 0 h0)
 ·have := hn h0 b e
  have := hv b e2
  omega
end
structure Cd where
 q : Sb
 n : Nat
 g : Nat
 ca : Option Addr
 cc : Nat
 pa : Option Addr
 pc : Nat
 ea : Option Addr
 ec : Nat
abbrev cdV (e : Cd) : Array Value := #[.int .i64 0, .slice (some ⟨e.g, 0, none⟩) 1 1, .int .i64 (e.n : Int)]
def cdC (e : Cd) : List Value := (cdV e).toList
def rowD (L : List Cd) : List Value := L.flatMap cdC
theorem rowD_app (L M : List Cd) : rowD (L ++ M) = rowD L ++ rowD M := by unfold rowD; rw [List.flatMap_append]
theorem rowD_one (e : Cd) : rowD [e] = cdC e := by simp [rowD]
theorem cdC_len (e : Cd) : (cdC e).length = 3 := rfl
theorem rowD_get (L : List Cd) (j i : Nat) (e : Cd) (hj : L[j]? = some e) (hi : i < 3) : (rowD L)[j * 3 + i]? = (cdC e)[i]? := by
 induction L generalizing j with
 | nil => cases hj
 | cons x t ih =>
  have hx : rowD (x :: t) = cdC x ++ rowD t := by simp [rowD]
  rw [hx]
  cases j with
  | zero =>
   rw [List.getElem?_cons_zero] at hj
   cases hj
   rw [Nat.zero_mul, Nat.zero_add, List.getElem?_append_left (by rw [cdC_len]; exact hi)]
  | succ j =>
   rw [List.getElem?_cons_succ] at hj
   rw [List.getElem?_append_right (by rw [cdC_len]; omega), cdC_len, show (j + 1) * 3 + i - 3 = j * 3 + i by omega]
   exact ih j hj
structure CdAt (X : World) (e : Cd) : Prop where
 box : X.heap[e.g]? = some (.cells (subC e.q e.ca e.cc e.pa e.pc e.ea e.ec) 27 (0, 0))
 sb : SbAt X e.q e.ca e.pa e.ea
 cap : e.q.C.length ≤ e.cc ∧ (e.ca = none → e.cc = 0)
theorem CdAt.below {X X' : World} {e : Cd} (h : CdAt X e) (hb : Below X.heap.size X X') : CdAt X' e := ⟨by rw [hb.block _ (lt_of_block h.box)]; exact h.box, h.sb.below hb, h.cap⟩
structure COff (v : Value) (X : World) (e : Cd) : Prop where
 at_ : CdAt X e
 g : Off v X e.g
 c : IOff v X e.ca e.q.C
 p : IOff v X e.pa e.q.R.P
 e : IOff v X e.ea e.q.R.E
section
variable {v : Value} {X X' w1 : World} {x : Cd} {g n c : Nat}
theorem COff.low (h : COff v X x) (hb : Below X.heap.size X X') : COff v X' x := ⟨h.at_.below hb, h.g.low hb, h.c.low hb, h.p.low hb, h.e.low hb⟩
theorem COff.push (h : COff v X x) (hg : X.grownBy w1 v.ownBlock) (hat : v.ownBlock = some g ∨ g = X.heap.size) : COff (.slice (some ⟨g, 0, none⟩) n c) w1 x := by
 have h1 := h.c.push (n := n) (c := c) hg hat
 have h2 := h.p.push (n := n) (c := c) hg hat
 have h3 := h.e.push (n := n) (c := c) hg hat
 have h4 := h.g.push (n := n) (c := c) hg hat
 refine ⟨⟨by rw [h4.2]; exact h.at_.box, ⟨h1.i, ⟨h2.i, h3.i, h.at_.sb.R.m1, h.at_.sb.R.m2, h.at_.sb.R.o1, h.at_.sb.R.o2⟩, h.at_.sb.k, h.at_.sb.o, h.at_.sb.w, h.at_.sb.p, h.at_.sb.h⟩, h.at_.cap⟩, h4.1, h1, h2, h3⟩
end
structure FrC (n : Nat) (e : Cd) : Prop where
 g : n ≤ e.g
 c : 0 < e.q.C.length → ∀ b, blockOf e.ca = some b → n ≤ b
 p : 0 < e.q.R.P.length → ∀ b, blockOf e.pa = some b → n ≤ b
 e : 0 < e.q.R.E.length → ∀ b, blockOf e.ea = some b → n ≤ b
theorem FrC.mono {n m : Nat} {e : Cd} (h : FrC n e) (hm : m ≤ n) : FrC m e := ⟨Nat.le_trans hm h.g, fun h0 b hb => Nat.le_trans hm (h.c h0 b hb), fun h0 b hb => Nat.le_trans hm (h.p h0 b hb), fun h0 b hb => Nat.le_trans hm (h.e h0 b hb)⟩
theorem CdAt.off {v : Value} {X : World} {e : Cd} {n : Nat} (h : CdAt X e) (hf : FrC n e) (hv : ∀ k, v.ownBlock = some k → k < n) : COff v X e :=
 ⟨h, ⟨lt_of_block h.box, fun e2 => by have h1 := hv _ e2; have h2 := hf.g; omega⟩, h.sb.C.off hv hf.c, h.sb.R.P.off hv hf.p, h.sb.R.E.off hv hf.e⟩
structure CL (w : World) (v : Value) (L : List Cd) (X : World) : Prop where
 own : X.ownsRow w.heap.size 63 3 v L.length (rowD L)
 at_ : ∀ e ∈ L, COff v X e
 fr : ∀ e ∈ L, FrC w.heap.size e
 below : Below w.heap.size w X
section
variable {w X X' w1 : World} {v : Value} {L : List Cd}
theorem CL.nil (w X : World) (h : Below w.heap.size w X) : CL w (.slice none 0 0) [] X := ⟨World.ownsRow_nil _ _ _ _, fun e he => absurd he (by simp), fun e he => absurd he (by simp), h⟩
theorem CL.low (h : CL w v L X) (hb : Below X.heap.size X X') : CL w v L X' := ⟨own_low h.own hb, fun e he => (h.at_ e he).low hb, h.fr, h.below.trans (hb.mono h.below.size)⟩
theorem CL.shape (h : CL w v L X) : ∃ ao cap, v = .slice ao L.length cap := by
 obtain ⟨ao, cap, h1, _⟩ := owns_shape h.own
 exact ⟨ao, cap, h1⟩
theorem CL.own_lt (h : CL w v L X) : ∀ k, v.ownBlock = some k → k < X.heap.size := fun k e => (h.own.lt k e).2
theorem CL.push (h : CL w v L X) (x : Cd) (hx : COff v X x) (hf : FrC w.heap.size x) {g cap : Nat} (ho : w1.ownsRow w.heap.size 63 3 (.slice (some ⟨g, 0, none⟩) (L.length + 1) cap) (L.length + 1) (rowD L ++ cdC x)) (hg : X.grownBy w1 v.ownBlock) (hat : v.ownBlock = some g ∨ g = X.heap.size) : CL w (.slice (some ⟨g, 0, none⟩) (L.length + 1) cap) (L ++ [x]) w1 := by
 refine ⟨by rw [List.length_append, rowD_app, rowD_one]; exact ho, fun e he => ?_, fun e he => ?_, h.below.trans ⟨hg.os, hg.tape, hg.output, hg.size, fun k hk => ?_⟩⟩
 ·rcases List.mem_append.1 he with h1 | h1
  ·exact (h.at_ e h1).push hg hat
  ·rw [List.mem_singleton] at h1; subst h1; exact hx.push hg hat
 ·rcases List.mem_append.1 he with h1 | h1
  ·exact h.fr e h1
  ·rw [List.mem_singleton] at h1; subst h1; exact hf
 ·exact hg.block k (by have := h.below.size; omega) (fun e => by have := (h.own.lt k e.symm).1; omega)
end
def CdsAt (w : World) (b off : Nat) (L : List Cd) : Prop := ∀ j e, L[j]? = some e → w.cell? ⟨b, off + j * 3, none⟩ = some (.int .i64 0) ∧ w.cell? ⟨b, off + j * 3 + 1, none⟩ = some (.slice (some ⟨e.g, 0, none⟩) 1 1) ∧ w.cell? ⟨b, off + j * 3 + 2, none⟩ = some (.int .i64 (e.n : Int))
theorem CdsAt.below {w w' : World} {b off : Nat} {L : List Cd} (h : CdsAt w b off L) (hb : Below w.heap.size w w') : CdsAt w' b off L := fun j e hj => by
 obtain ⟨h0, h1, h2⟩ := h j e hj
 have hk := hb.block b (lt_cell h0)
 exact ⟨by rw [World.cell?_of_block (w := w) hk]; exact h0, by rw [World.cell?_of_block (w := w) hk]; exact h1, by rw [World.cell?_of_block (w := w) hk]; exact h2⟩
theorem cds_row {w : World} {b : Nat} {cs : Array Value} {t : TypeId} {L : List Cd} (h : w.heap[b]? = some (.cells cs t (0, 0))) (hc : ∀ i, i < L.length * 3 → cs[i]? = (rowD L)[i]?) : CdsAt w b 0 L := fun j e hj => by
 have hjl : j < L.length := by
  rcases Nat.lt_or_ge j L.length with h1 | h1
  ·exact h1
  ·rw [List.getElem?_eq_none h1] at hj; cases hj
 refine ⟨?_, ?_, ?_⟩
 ·have h1 := rowD_get L j 0 e hj (by decide)
  rw [cell_of_row _ _ _ _ _ _ h, Nat.zero_add, hc _ (by omega)]; exact h1
 ·have h1 := rowD_get L j 1 e hj (by decide)
  rw [cell_of_row _ _ _ _ _ _ h, Nat.zero_add, hc _ (by omega)]; exact h1
 ·have h1 := rowD_get L j 2 e hj (by decide)
  rw [cell_of_row _ _ _ _ _ _ h, Nat.zero_add, hc _ (by omega)]; exact h1
theorem CL.cds {w X : World} {v : Value} {L : List Cd} (h : CL w v L X) (h0 : 0 < L.length) : ∃ b cap, v = .slice (some ⟨b, 0, none⟩) L.length cap ∧ L.length ≤ cap ∧ CdsAt X b 0 L := by
 rcases h.own.2 with ⟨hv, hn⟩ | ⟨g', cap', cur, hv, _, hg, hle, _, _, ht⟩
 ·obtain ⟨ao, cap, hs⟩ := h.shape
  rw [hv] at hs
  have : (0 : Nat) = L.length := by injection hs
  omega
 ·refine ⟨g', cap', hv, hle, cds_row hg (fun i hi => ?_)⟩
  rw [← ht, List.getElem?_take_of_lt hi, Array.getElem?_toList]
def shoD (a : Cd) (L : List Cd) : Cd := L.foldl (fun a x => if x.n < a.n then x else a) a
abbrev cdP (e : Cd) : Sb × Nat := (e.q, e.n)
theorem shoD_P (L : List Cd) (a : Cd) : cdP (shoD a L) = shoT (cdP a) (L.map cdP) := by
 induction L generalizing a with
 | nil => rfl
 | cons x t ih =>
  have e1 : shoD a (x :: t) = shoD (if x.n < a.n then x else a) t := rfl
  have e2 : shoT (cdP a) ((x :: t).map cdP) = shoT (if (cdP x).2 < (cdP a).2 then cdP x else cdP a) (t.map cdP) := rfl
  rw [e1, e2, ih]
  congr 1
  by_cases hh : x.n < a.n
  ·rw [if_pos hh, if_pos hh]
  ·rw [if_neg hh, if_neg hh]
theorem shoD_mem (L : List Cd) (a : Cd) : shoD a L = a ∨ shoD a L ∈ L := by
 induction L generalizing a with
 | nil => exact Or.inl rfl
 | cons x t ih =>
  have e1 : shoD a (x :: t) = shoD (if x.n < a.n then x else a) t := rfl
  rw [e1]
  rcases ih (if x.n < a.n then x else a) with h | h
  ·by_cases hh : x.n < a.n
   ·rw [if_pos hh] at h ⊢; rw [h]; exact Or.inr (List.mem_cons_self ..)
   ·rw [if_neg hh] at h ⊢; exact Or.inl h
  ·exact Or.inr (List.mem_cons_of_mem _ h)
theorem shoD_take (L : List Cd) (a : Cd) (i : Nat) (e : Cd) (h : L[i]? = some e) : shoD a (L.take (i + 1)) = if e.n < (shoD a (L.take i)).n then e else shoD a (L.take i) := by
 rw [List.take_add_one, h]
 unfold shoD
 rw [List.foldl_append]
 rfl
theorem s3c_a {wx : World} (n : Nat) (v0 v1 v2 : Value) {a0 a1 a2 : Value} {t : TypeId} (h : wx.heap[n]? = some (.cells #[a0, a1, a2] t (0, 0))) : (((wx.setCell ⟨n, 0, none⟩ v0).setCell ⟨n, 1, none⟩ v1).setCell ⟨n, 2, none⟩ v2).heap[n]? = some (.cells #[v0, v1, v2] t (0, 0)) := by
 rw [block_setCell _ _ _ _ _ _ (block_setCell _ _ _ _ _ _ (block_setCell _ _ _ _ _ _ h))]
 simp only [List.setIfInBounds_toArray, List.set_cons_zero, List.set_cons_succ]
theorem s3c_b {wx : World} (n : Nat) (v0 v1 v2 : Value) (w : World) (hn : w.heap.size ≤ n) (h : Below w.heap.size w wx) : Below w.heap.size w (((wx.setCell ⟨n, 0, none⟩ v0).setCell ⟨n, 1, none⟩ v1).setCell ⟨n, 2, none⟩ v2) := ((h.setCell hn _).setCell hn _).setCell hn _
theorem s3c_d {wx : World} (n : Nat) (v0 v1 v2 : Value) (j : Nat) (h0 : j ≠ n) : (((wx.setCell ⟨n, 0, none⟩ v0).setCell ⟨n, 1, none⟩ v1).setCell ⟨n, 2, none⟩ v2).heap[j]? = wx.heap[j]? := by
 rw [Below.heap_setCell _ _ _ j h0, Below.heap_setCell _ _ _ j h0, Below.heap_setCell _ _ _ j h0]
theorem cod_cells {w : World} {g : Nat} {a0 a1 a2 : Value} (h : w.heap[g]? = some (.cells #[a0, a1, a2] 63 (0, 0))) : w.cell? ⟨g, 0, none⟩ = some a0 ∧ w.cell? ⟨g, 1, none⟩ = some a1 ∧ w.cell? ⟨g, 2, none⟩ = some a2 := by
 refine ⟨?_, ?_, ?_⟩ <;> (rw [cell_of_row _ _ _ _ _ _ h]; rfl)
structure SB3 (w : World) (e : Cd) (X : World) : Prop where
 res : X.heap[w.heap.size]? = some (.cells #[.int .i64 0, .slice none 0 0, .int .i64 0] 63 (0, 0))
 best : X.heap[w.heap.size + 1]? = some (.cells (cdV e) 63 (0, 0))
 below : Below w.heap.size w X
theorem SB3.low {w X X' : World} {e : Cd} (h : SB3 w e X) (hb : Below X.heap.size X X') : SB3 w e X' :=
 ⟨by rw [hb.block _ (lt_of_block h.res)]; exact h.res, by rw [hb.block _ (lt_of_block h.best)]; exact h.best, h.below.trans (hb.mono h.below.size)⟩
theorem SB3.new (w : World) (e : Cd) : SB3 w e ((w.alloc (.cells #[.int .i64 0, .slice none 0 0, .int .i64 0] 63)).alloc (.cells (cdV e) 63)) := by
 refine ⟨heap_two _ _ _, ?_, ((Below.refl _ _).alloc (Nat.le_refl _) _).alloc (by simp) _⟩
 have hh := heap_alloc_new (w.alloc (.cells #[.int .i64 0, .slice none 0 0, .int .i64 0] 63)) (.cells (cdV e) 63)
 rw [show (w.alloc (.cells #[.int .i64 0, .slice none 0 0, .int .i64 0] 63)).heap.size = w.heap.size + 1 from by simp] at hh
 exact hh
theorem SB3.put {w X : World} {e : Cd} (h : SB3 w e X) (e' : Cd) : SB3 w e' (((X.setCell ⟨w.heap.size + 1, 0, none⟩ (.int .i64 0)).setCell ⟨w.heap.size + 1, 1, none⟩ (.slice (some ⟨e'.g, 0, none⟩) 1 1)).setCell ⟨w.heap.size + 1, 2, none⟩ (.int .i64 (e'.n : Int))) :=
 ⟨by rw [s3c_d _ _ _ _ _ (by omega)]; exact h.res, s3c_a _ _ _ _ h.best, s3c_b _ _ _ _ w (by omega) h.below⟩
theorem z_shortest (L : List Cd) (e0 : Cd) (h0 : L[0]? = some e0) (hL : L.length ≤ 1000) (b off cap : Nat) (w : World) (hw : CdsAt w b off L) : Calls Tryz.prog 75 #[.slice (some ⟨b, off, none⟩) L.length cap] w fun e w' => e = .returned (.agg (cdV (shoD e0 L))) ∧ Below w.heap.size w w' := by
 have hL0 : 0 < L.length := by
  rcases Nat.lt_or_ge 0 L.length with h1 | h1
  ·exact h1
  ·rw [List.getElem?_eq_none h1] at h0; cases h0
 have HW : Hid (∀ wx, Below w.heap.size w wx → CdsAt wx b off L) := fun wx hb => hw.below hb
 obtain ⟨c0, c1, c2⟩ := HW.out _ (show Below w.heap.size w (w.alloc (.cells #[.int .i64 0, .slice none 0 0, .int .i64 0] 63)) from (Below.refl _ _).alloc (Nat.le_refl _) _) 0 e0 h0
 rw [Nat.zero_mul, Nat.add_zero] at c0 c1 c2
 have HA : Hid (SB3 w e0 ((w.alloc (.cells #[.int .i64 0, .slice none 0 0, .int .i64 0] 63)).alloc (.cells (cdV e0) 63))) := SB3.new w e0
 clear hw h0
 go_enter Tryz.func75, Tryz.ntmps75
 go_upto_region 2 with fail
 generalize hwa : World.alloc _ _ = wa at *
 clear hwa
 go_wp2_with fail
 go_loopw [5, 11] (fun s5 s11 wr => ∃ i : Nat, i ≤ L.length ∧ s11 = .int .i64 (i : Int) ∧ SB3 w (shoD e0 (L.take i)) wr) (fun _ s11 _ => L.length - (intOf s11).toNat)
 case atStart => exact ⟨0, Nat.zero_le _, rfl, HA.out⟩
 case round =>
  clear HA c0 c1 c2
  obtain ⟨i, hi, rfl, hsb⟩ := hrel
  have HSB : Hid (SB3 w (shoD e0 (L.take i)) wr) := hsb
  clear hsb
  by_cases hlt : i < L.length
  ·obtain ⟨e, he⟩ : ∃ e, L[i]? = some e := ⟨_, List.getElem?_eq_getElem hlt⟩
   have HN : Hid (shoD e0 (L.take (i + 1)) = if e.n < (shoD e0 (L.take i)).n then e else shoD e0 (L.take i)) := shoD_take L e0 i e he
   obtain ⟨d0, d1, d2⟩ := HW.out wr HSB.out.below i e he
   clear he
   generalize shoD e0 (L.take i) = E at *
   have HX : Hid (SB3 w E (wr.alloc (.cells (cdV e) 63))) := HSB.out.low ((Below.refl _ _).alloc (Nat.le_refl _) _)
   have HC : Hid ((wr.alloc (.cells (cdV e) 63)).heap[wr.heap.size]? = some (.cells (cdV e) 63 (0, 0))) := heap_alloc_new _ _
   clear HSB
   go_upto_region 5 with fail
   generalize hwc : World.alloc _ _ = wc at *
   generalize hgc : wr.heap.size = gc at *
   clear hwc hgc d0 d1 d2
   obtain ⟨y0, y1, y2⟩ := cod_cells HC.out
   obtain ⟨z0, z1, z2⟩ := cod_cells HX.out.best
   have fz : ∀ j, wc.frozen? ⟨w.heap.size + 1, j, none⟩ = false := fun j => row_frozen HX.out.best j
   have fz0 := fz 0
   have fz1 := fz 1
   have fz2 := fz 2
   clear fz
   by_cases hn : e.n < E.n
   ·have hb : e.n < E.n := hn
    have HP : Hid (SB3 w (shoD e0 (L.take (i + 1))) (((wc.setCell ⟨w.heap.size + 1, 0, none⟩ (.int .i64 0)).setCell ⟨w.heap.size + 1, 1, none⟩ (.slice (some ⟨e.g, 0, none⟩) 1 1)).setCell ⟨w.heap.size + 1, 2, none⟩ (.int .i64 (e.n : Int)))) := by
     rw [HN.out, if_pos hn]; exact HX.out.put e
    clear hn HN HX
    go_wp2_with fail
    go_roundw
    case rel => exact ⟨i + 1, by omega, by go_num, HP.out⟩
    case measure => simp [intOf]; omega
   ·have hb : ¬ e.n < E.n := hn
    have HP : Hid (SB3 w (shoD e0 (L.take (i + 1))) wc) := by rw [HN.out, if_neg hn]; exact HX.out
    clear hn HN HX
    go_wp2_with fail
    go_roundw
    case rel => exact ⟨i + 1, by omega, by go_num, HP.out⟩
    case measure => simp [intOf]; omega
  ·have hil : i = L.length := by omega
   subst hil
   rw [List.take_length] at HSB
   obtain ⟨E, hE⟩ : ∃ E, E = shoD e0 L := ⟨_, rfl⟩
   rw [← hE] at HSB
   have HE : Hid (shoD e0 L = E) := hE.symm
   clear hE
   obtain ⟨z0, z1, z2⟩ := cod_cells HSB.out.best
   obtain ⟨u0, u1, u2⟩ := cod_cells HSB.out.res
   have fz0 := row_frozen HSB.out.res 0
   have fz1 := row_frozen HSB.out.res 1
   have fz2 := row_frozen HSB.out.res 2
   go_wp2_with fail
   generalize hwf : World.setCell _ _ _ = wf
   have hrow : wf.heap[w.heap.size]? = some (.cells (cdV E) 63 (0, 0)) := by rw [← hwf]; exact s3c_a _ _ _ _ HSB.out.res
   have hbel : Below w.heap.size w wf := by rw [← hwf]; exact s3c_b _ _ _ _ w (Nat.le_refl _) HSB.out.below
   refine bodyPost_ret (v := .agg (cdV E)) ?_ rfl ⟨by rw [HE.out], hbel⟩
   rw [results_one rfl]
   have hld := run_loadVar_row (P := Tryz.prog) (wf) (w.heap.size) 63 63 (cdV E) (0, 0) _ hrow Tryz.underlying63 rfl info_coding
   simp [asAddr, Result.andThen, hld]
def CapK (L : List El) : Prop := ∀ e ∈ L, e.q.C.length ≤ e.cc ∧ (e.ca = none → e.cc = 0)
theorem CapK.app {L M : List El} (h : CapK L) (h2 : CapK M) : CapK (L ++ M) := fun e he => by
 rcases List.mem_append.1 he with h1 | h1
 ·exact h e h1
 ·exact h2 e h1
theorem CapK.one (q : Sb) (a : Option Addr) (c : Nat) (h : q.C.length ≤ c) (h2 : a = none → c = 0) : CapK [⟨q, a, c⟩] := fun e he => by
 rw [List.mem_singleton] at he; subst he; exact ⟨h, h2⟩
theorem z_pred0 (lv : Int) (hlv : lv = 0) (w : World) : Calls Tryz.prog 142 #[.int .i64 lv] w fun e w' => ∃ so cap L, e = .returned (.slice so L.length cap) ∧ TS w (.slice so L.length cap) L w' ∧ L.map (·.q) = trL lv 0 ∧ CapK L := by
 obtain ⟨iS, hSa, hSb, hSc, hSd⟩ := sub_info12
 have km := z_maxFixed lv
 subst hlv
 rw [if_pos rfl] at km
 go_enter Tryz.func142, Tryz.ntmps142
 go_wp2_with fail
 refine (km _).mono ?_
 rintro e w2 ⟨rfl, hw2⟩
 subst hw2
 clear km
 go_wp2_with fail
 go_loopw [3, 4, 8] (fun s3 s4 s8 wr => ∃ (j : Nat) (v : Value) (L : List El), j ≤ 3 ∧ s8 = .int .i64 (j : Int) ∧ s3 = v ∧ L.map (·.q) = (List.range j).map (fxS 0) ∧ CapK L ∧ TS w2 v L wr) (fun _ _ s8 _ => 3 - (intOf s8).toNat)
 case atStart => exact ⟨0, _, [], by omega, rfl, rfl, rfl, fun e he => absurd he (by simp), TS.nil w2⟩
 case round =>
  obtain ⟨j, v, L, hj, rfl, rfl, hmap, hcap, hts⟩ := hrel
  have HMP : Hid (L.map (·.q) = (List.range j).map (fxS 0)) := hmap
  have HCK : Hid (CapK L) := hcap
  obtain ⟨oa, oc, rfl⟩ := hts.shape
  have HTS : Hid (TS w2 (.slice oa L.length oc) L wr) := hts
  have hLl : L.length = j := by have := congrArg List.length hmap; simpa using this
  clear hts hmap hcap
  by_cases hlt : j < 3
  ·have hL5 : L.length ≤ 10 := by omega
   have HLL : Hid (L.length = j) := hLl
   clear hLl
   go_wp2_with (at_builtin; refine wpList_append_lies _ rfl (.tmp 11) (.tmp 14) 39 rfl w2.heap.size 27 iS (.agg (subC ⟨0, 0, 0, 0, 0, [], R00⟩ none 0 none 0 none 0)) 10 128 undSubs12 hSa hSb hSc hSd rfl (by decide) (.slice oa L.length oc) L.length (rowC L) rfl (HTS.out.low ((Below.refl _ _).alloc (Nat.le_refl _) _)).own ⟨wr.heap.size, 0, none⟩ 1 1 ((subC (fxS 0 j) none 0 none 0 none 0)).toList rfl rfl (World.news_of_block (cs := (subC (fxS 0 j) none 0 none 0 none 0)) (t := 27) (fr := (0, 0)) (heap_alloc_new _ _)) (by intro u hu; simp at hu; rcases hu with h | h | h | h | h | h | h | h | h | h <;> (rw [h]; rfl)) (by decide) (by unfold maxLen; omega) (by omega) (HTS.out.low ((Below.refl _ _).alloc (Nat.le_refl _) _)).below.size _ rfl ?_; intro gA cA wA ownA groA hatA hltA)
   have HPA : Hid (TS w2 (.slice (some ⟨gA, 0, none⟩) (L.length + 1) cA) (L ++ [⟨fxS 0 j, none, 0⟩]) wA) := (HTS.out.low ((Below.refl _ _).alloc (Nat.le_refl _) _)).push (M := [⟨fxS 0 j, none, 0⟩]) (by rw [rowC_one]; exact ownA) groA hatA (fun e he => by
    rw [List.mem_singleton] at he; subst he; exact ⟨IntsAt.nil _, fun h0 => absurd h0 (Nat.lt_irrefl 0)⟩)
   have HM2 : Hid ((L ++ [(⟨fxS 0 j, none, 0⟩ : El)]).map (·.q) = (List.range (j + 1)).map (fxS 0)) := by
    show _ = _
    rw [List.map_append, HMP.out, List.range_succ, List.map_append]; rfl
   have HC2 : Hid (CapK (L ++ [(⟨fxS 0 j, none, 0⟩ : El)])) := HCK.out.app (CapK.one _ _ _ (Nat.le_refl _) (fun _ => rfl))
   clear ownA groA hatA hltA
   go_wp2_with fail
   go_roundw
   case rel => exact ⟨j + 1, _, _, by omega, by go_num, rfl, HM2.out, HC2.out, HPA.out⟩
   case measure => simp [intOf]; omega
  ·have hjK : j = 3 := by omega
   subst hjK
   go_wp2_with fail
   go_ret
   exact ⟨oa, oc, L, rfl, HTS.out, by rw [HMP.out]; unfold trL; rw [if_neg (by decide), if_neg (by decide)]; simp, HCK.out⟩
theorem z_pred1 (lv : Int) (hlv : lv = 1) (w : World) : Calls Tryz.prog 142 #[.int .i64 lv] w fun e w' => ∃ so cap L, e = .returned (.slice so L.length cap) ∧ TS w (.slice so L.length cap) L w' ∧ L.map (·.q) = trL lv 0 ∧ CapK L := by
 obtain ⟨iS, hSa, hSb, hSc, hSd⟩ := sub_info12
 have km := z_maxFixed lv
 subst hlv
 rw [if_neg (by decide)] at km
 go_enter Tryz.func142, Tryz.ntmps142
 go_wp2_with fail
 refine (km _).mono ?_
 rintro e w2 ⟨rfl, hw2⟩
 subst hw2
 clear km
 go_wp2_with fail
 go_loopw [3, 4, 8] (fun s3 s4 s8 wr => ∃ (j : Nat) (v : Value) (L : List El), j ≤ 5 ∧ s8 = .int .i64 (j : Int) ∧ s3 = v ∧ L.map (·.q) = (List.range j).map (fxS 0) ∧ CapK L ∧ TS w2 v L wr) (fun _ _ s8 _ => 5 - (intOf s8).toNat)
 case atStart => exact ⟨0, _, [], by omega, rfl, rfl, rfl, fun e he => absurd he (by simp), TS.nil w2⟩
 case round =>
  obtain ⟨j, v, L, hj, rfl, rfl, hmap, hcap, hts⟩ := hrel
  have HMP : Hid (L.map (·.q) = (List.range j).map (fxS 0)) := hmap
  have HCK : Hid (CapK L) := hcap
  obtain ⟨oa, oc, rfl⟩ := hts.shape
  have HTS : Hid (TS w2 (.slice oa L.length oc) L wr) := hts
  have hLl : L.length = j := by have := congrArg List.length hmap; simpa using this
  clear hts hmap hcap
  by_cases hlt : j < 5
  ·have hL5 : L.length ≤ 10 := by omega
   have HLL : Hid (L.length = j) := hLl
   clear hLl
   go_wp2_with (at_builtin; refine wpList_append_lies _ rfl (.tmp 11) (.tmp 14) 39 rfl w2.heap.size 27 iS (.agg (subC ⟨0, 0, 0, 0, 0, [], R00⟩ none 0 none 0 none 0)) 10 128 undSubs12 hSa hSb hSc hSd rfl (by decide) (.slice oa L.length oc) L.length (rowC L) rfl (HTS.out.low ((Below.refl _ _).alloc (Nat.le_refl _) _)).own ⟨wr.heap.size, 0, none⟩ 1 1 ((subC (fxS 0 j) none 0 none 0 none 0)).toList rfl rfl (World.news_of_block (cs := (subC (fxS 0 j) none 0 none 0 none 0)) (t := 27) (fr := (0, 0)) (heap_alloc_new _ _)) (by intro u hu; simp at hu; rcases hu with h | h | h | h | h | h | h | h | h | h <;> (rw [h]; rfl)) (by decide) (by unfold maxLen; omega) (by omega) (HTS.out.low ((Below.refl _ _).alloc (Nat.le_refl _) _)).below.size _ rfl ?_; intro gA cA wA ownA groA hatA hltA)
   have HPA : Hid (TS w2 (.slice (some ⟨gA, 0, none⟩) (L.length + 1) cA) (L ++ [⟨fxS 0 j, none, 0⟩]) wA) := (HTS.out.low ((Below.refl _ _).alloc (Nat.le_refl _) _)).push (M := [⟨fxS 0 j, none, 0⟩]) (by rw [rowC_one]; exact ownA) groA hatA (fun e he => by
    rw [List.mem_singleton] at he; subst he; exact ⟨IntsAt.nil _, fun h0 => absurd h0 (Nat.lt_irrefl 0)⟩)
   have HM2 : Hid ((L ++ [(⟨fxS 0 j, none, 0⟩ : El)]).map (·.q) = (List.range (j + 1)).map (fxS 0)) := by
    show _ = _
    rw [List.map_append, HMP.out, List.range_succ, List.map_append]; rfl
   have HC2 : Hid (CapK (L ++ [(⟨fxS 0 j, none, 0⟩ : El)])) := HCK.out.app (CapK.one _ _ _ (Nat.le_refl _) (fun _ => rfl))
   clear ownA groA hatA hltA
   go_wp2_with fail
   go_roundw
   case rel => exact ⟨j + 1, _, _, by omega, by go_num, rfl, HM2.out, HC2.out, HPA.out⟩
   case measure => simp [intOf]; omega
  ·have hjK : j = 5 := by omega
   subst hjK
   go_wp2_with fail
   go_ret
   exact ⟨oa, oc, L, rfl, HTS.out, by rw [HMP.out]; unfold trL; rw [if_pos (by decide), if_neg (by decide)]; simp, HCK.out⟩
theorem z_pred2 (lv : Int) (hlv : lv = 2) (w : World) : Calls Tryz.prog 142 #[.int .i64 lv] w fun e w' => ∃ so cap L, e = .returned (.slice so L.length cap) ∧ TS w (.slice so L.length cap) L w' ∧ L.map (·.q) = trL lv 0 ∧ CapK L := by
 obtain ⟨iS, hSa, hSb, hSc, hSd⟩ := sub_info12
 have km := z_maxFixed lv
 subst hlv
 rw [if_neg (by decide)] at km
 go_enter Tryz.func142, Tryz.ntmps142
 go_wp2_with fail
 refine (km _).mono ?_
 rintro e w2 ⟨rfl, hw2⟩
 subst hw2
 clear km
 go_wp2_with fail
 go_loopw [3, 4, 8] (fun s3 s4 s8 wr => ∃ (j : Nat) (v : Value) (L : List El), j ≤ 5 ∧ s8 = .int .i64 (j : Int) ∧ s3 = v ∧ L.map (·.q) = (List.range j).map (fxS 0) ∧ CapK L ∧ TS w2 v L wr) (fun _ _ s8 _ => 5 - (intOf s8).toNat)
 case atStart => exact ⟨0, _, [], by omega, rfl, rfl, rfl, fun e he => absurd he (by simp), TS.nil w2⟩
 case round =>
  obtain ⟨j, v, L, hj, rfl, rfl, hmap, hcap, hts⟩ := hrel
  have HMP : Hid (L.map (·.q) = (List.range j).map (fxS 0)) := hmap
  have HCK : Hid (CapK L) := hcap
  obtain ⟨oa, oc, rfl⟩ := hts.shape
  have HTS : Hid (TS w2 (.slice oa L.length oc) L wr) := hts
  have hLl : L.length = j := by have := congrArg List.length hmap; simpa using this
  clear hts hmap hcap
  by_cases hlt : j < 5
  ·have hL5 : L.length ≤ 10 := by omega
   have HLL : Hid (L.length = j) := hLl
   clear hLl
   go_wp2_with (at_builtin; refine wpList_append_lies _ rfl (.tmp 11) (.tmp 14) 39 rfl w2.heap.size 27 iS (.agg (subC ⟨0, 0, 0, 0, 0, [], R00⟩ none 0 none 0 none 0)) 10 128 undSubs12 hSa hSb hSc hSd rfl (by decide) (.slice oa L.length oc) L.length (rowC L) rfl (HTS.out.low ((Below.refl _ _).alloc (Nat.le_refl _) _)).own ⟨wr.heap.size, 0, none⟩ 1 1 ((subC (fxS 0 j) none 0 none 0 none 0)).toList rfl rfl (World.news_of_block (cs := (subC (fxS 0 j) none 0 none 0 none 0)) (t := 27) (fr := (0, 0)) (heap_alloc_new _ _)) (by intro u hu; simp at hu; rcases hu with h | h | h | h | h | h | h | h | h | h <;> (rw [h]; rfl)) (by decide) (by unfold maxLen; omega) (by omega) (HTS.out.low ((Below.refl _ _).alloc (Nat.le_refl _) _)).below.size _ rfl ?_; intro gA cA wA ownA groA hatA hltA)
   have HPA : Hid (TS w2 (.slice (some ⟨gA, 0, none⟩) (L.length + 1) cA) (L ++ [⟨fxS 0 j, none, 0⟩]) wA) := (HTS.out.low ((Below.refl _ _).alloc (Nat.le_refl _) _)).push (M := [⟨fxS 0 j, none, 0⟩]) (by rw [rowC_one]; exact ownA) groA hatA (fun e he => by
    rw [List.mem_singleton] at he; subst he; exact ⟨IntsAt.nil _, fun h0 => absurd h0 (Nat.lt_irrefl 0)⟩)
   have HM2 : Hid ((L ++ [(⟨fxS 0 j, none, 0⟩ : El)]).map (·.q) = (List.range (j + 1)).map (fxS 0)) := by
    show _ = _
    rw [List.map_append, HMP.out, List.range_succ, List.map_append]; rfl
   have HC2 : Hid (CapK (L ++ [(⟨fxS 0 j, none, 0⟩ : El)])) := HCK.out.app (CapK.one _ _ _ (Nat.le_refl _) (fun _ => rfl))
   clear ownA groA hatA hltA
   go_wp2_with fail
   go_roundw
   case rel => exact ⟨j + 1, _, _, by omega, by go_num, rfl, HM2.out, HC2.out, HPA.out⟩
   case measure => simp [intOf]; omega
  ·have hjK : j = 5 := by omega
   have HJK : Hid (j = 5) := hjK
   clear hjK
   have hL5 : L.length ≤ 10 := by have := HJK.out; omega
   have HLL : Hid (L.length = j) := hLl
   clear hLl
   have HT0a : Hid (TS w2 (.slice oa L.length oc) L (wr.alloc (.cells #[.int .i64 31] 3))) := HTS.out.low ((Below.refl _ _).alloc (Nat.le_refl _) _)
   have HI0 : Hid (IntsAt (wr.alloc (.cells #[.int .i64 31] 3)) (some ⟨wr.heap.size, 0, none⟩) [31]) := ints_new wr [31] (by decide) (by decide)
   have HS0 : Hid (∀ k, Value.ownBlock (.slice oa L.length oc) = some k → k < wr.heap.size) := fun k e => (HTS.out.own.lt k e).2
   have HQ0 : Hid (w2.heap.size ≤ wr.heap.size) := HTS.out.below.size
   clear HTS
   go_wp2_with fail
   have HZ0 : Hid (w2.heap.size ≤ wr.heap.size) := HQ0.out
   generalize hwn0 : World.alloc _ _ = wn0 at *
   generalize hgb0 : wr.heap.size = b0 at *
   clear hwn0 hgb0
   refine (z_lpc [31] (some ⟨b0, 0, none⟩) 1 wn0).mono ?_
   rintro e wc0 ⟨rfl, hbc⟩
   have HT0 : Hid (TS w2 (.slice oa L.length oc) L wc0) := HT0a.out.low hbc
   have HJ0 : Hid (IntsAt wc0 (some ⟨b0, 0, none⟩) [31]) := HI0.out.below hbc
   clear hbc HT0a HI0
   have HI0 := HJ0
   clear HJ0
   have HT1a : Hid (TS w2 (.slice oa L.length oc) L (wc0.alloc (.cells #[.int .i64 60, .int .i64 (-29)] 3))) := HT0.out.low ((Below.refl _ _).alloc (Nat.le_refl _) _)
   have HI1 : Hid (IntsAt (wc0.alloc (.cells #[.int .i64 60, .int .i64 (-29)] 3)) (some ⟨wc0.heap.size, 0, none⟩) [60, -29]) := ints_new wc0 [60, -29] (by decide) (by decide)
   have HI0_1 : Hid (IntsAt (wc0.alloc (.cells #[.int .i64 60, .int .i64 (-29)] 3)) (some ⟨b0, 0, none⟩) [31]) := HI0.out.below ((Below.refl _ _).alloc (Nat.le_refl _) _)
   have HS1 : Hid (∀ k, Value.ownBlock (.slice oa L.length oc) = some k → k < wc0.heap.size) := fun k e => (HT0.out.own.lt k e).2
   have HQ1 : Hid (w2.heap.size ≤ wc0.heap.size) := HT0.out.below.size
   clear HT0
   go_wp2_with fail
   have HZ1 : Hid (w2.heap.size ≤ wc0.heap.size) := HQ1.out
   generalize hwn1 : World.alloc _ _ = wn1 at *
   generalize hgb1 : wc0.heap.size = b1 at *
   clear hwn1 hgb1
   refine (z_lpc [60, -29] (some ⟨b1, 0, none⟩) 2 wn1).mono ?_
   rintro e wc1 ⟨rfl, hbc⟩
   have HT1 : Hid (TS w2 (.slice oa L.length oc) L wc1) := HT1a.out.low hbc
   have HJ1 : Hid (IntsAt wc1 (some ⟨b1, 0, none⟩) [60, -29]) := HI1.out.below hbc
   have HJ0 : Hid (IntsAt wc1 (some ⟨b0, 0, none⟩) [31]) := HI0_1.out.below hbc
   clear hbc HT1a HI1 HI0_1 HI0
   have HI0 := HJ0
   clear HJ0
   have HI1 := HJ1
   clear HJ1
   have HT2a : Hid (TS w2 (.slice oa L.length oc) L (wc1.alloc (.cells #[.int .i64 63, .int .i64 (-31)] 3))) := HT1.out.low ((Below.refl _ _).alloc (Nat.le_refl _) _)
   have HI2 : Hid (IntsAt (wc1.alloc (.cells #[.int .i64 63, .int .i64 (-31)] 3)) (some ⟨wc1.heap.size, 0, none⟩) [63, -31]) := ints_new wc1 [63, -31] (by decide) (by decide)
   have HI0_2 : Hid (IntsAt (wc1.alloc (.cells #[.int .i64 63, .int .i64 (-31)] 3)) (some ⟨b0, 0, none⟩) [31]) := HI0.out.below ((Below.refl _ _).alloc (Nat.le_refl _) _)
   have HI1_2 : Hid (IntsAt (wc1.alloc (.cells #[.int .i64 63, .int .i64 (-31)] 3)) (some ⟨b1, 0, none⟩) [60, -29]) := HI1.out.below ((Below.refl _ _).alloc (Nat.le_refl _) _)
   have HS2 : Hid (∀ k, Value.ownBlock (.slice oa L.length oc) = some k → k < wc1.heap.size) := fun k e => (HT1.out.own.lt k e).2
   have HQ2 : Hid (w2.heap.size ≤ wc1.heap.size) := HT1.out.below.size
   clear HT1
   go_wp2_with fail
   have HZ2 : Hid (w2.heap.size ≤ wc1.heap.size) := HQ2.out
   generalize hwn2 : World.alloc _ _ = wn2 at *
   generalize hgb2 : wc1.heap.size = b2 at *
   clear hwn2 hgb2
   refine (z_lpc [63, -31] (some ⟨b2, 0, none⟩) 2 wn2).mono ?_
   rintro e wc2 ⟨rfl, hbc⟩
   have HT2 : Hid (TS w2 (.slice oa L.length oc) L wc2) := HT2a.out.low hbc
   have HJ2 : Hid (IntsAt wc2 (some ⟨b2, 0, none⟩) [63, -31]) := HI2.out.below hbc
   have HJ0 : Hid (IntsAt wc2 (some ⟨b0, 0, none⟩) [31]) := HI0_2.out.below hbc
   have HJ1 : Hid (IntsAt wc2 (some ⟨b1, 0, none⟩) [60, -29]) := HI1_2.out.below hbc
   clear hbc HT2a HI2 HI0_2 HI0 HI1_2 HI1
   have HI0 := HJ0
   clear HJ0
   have HI1 := HJ1
   clear HJ1
   have HI2 := HJ2
   clear HJ2
   have HTa : Hid (TS w2 (.slice oa L.length oc) L (wc2.alloc (.cells (rowC [⟨lpS 0 [31], some ⟨b0, 0, none⟩, 1⟩, ⟨lpS 0 [60, -29], some ⟨b1, 0, none⟩, 2⟩, ⟨lpS 0 [63, -31], some ⟨b2, 0, none⟩, 2⟩]).toArray 27))) := HT2.out.low ((Below.refl _ _).alloc (Nat.le_refl _) _)
   have HK0 : Hid (IntsAt (wc2.alloc (.cells (rowC [⟨lpS 0 [31], some ⟨b0, 0, none⟩, 1⟩, ⟨lpS 0 [60, -29], some ⟨b1, 0, none⟩, 2⟩, ⟨lpS 0 [63, -31], some ⟨b2, 0, none⟩, 2⟩]).toArray 27)) (some ⟨b0, 0, none⟩) [31]) := HI0.out.below ((Below.refl _ _).alloc (Nat.le_refl _) _)
   have HK1 : Hid (IntsAt (wc2.alloc (.cells (rowC [⟨lpS 0 [31], some ⟨b0, 0, none⟩, 1⟩, ⟨lpS 0 [60, -29], some ⟨b1, 0, none⟩, 2⟩, ⟨lpS 0 [63, -31], some ⟨b2, 0, none⟩, 2⟩]).toArray 27)) (some ⟨b1, 0, none⟩) [60, -29]) := HI1.out.below ((Below.refl _ _).alloc (Nat.le_refl _) _)
   have HK2 : Hid (IntsAt (wc2.alloc (.cells (rowC [⟨lpS 0 [31], some ⟨b0, 0, none⟩, 1⟩, ⟨lpS 0 [60, -29], some ⟨b1, 0, none⟩, 2⟩, ⟨lpS 0 [63, -31], some ⟨b2, 0, none⟩, 2⟩]).toArray 27)) (some ⟨b2, 0, none⟩) [63, -31]) := HI2.out.below ((Below.refl _ _).alloc (Nat.le_refl _) _)
   go_wp2_with (at_builtin; refine wpList_append_lies _ rfl (.tmp 19) (.tmp 26) 39 rfl w2.heap.size 27 iS (.agg (subC ⟨0, 0, 0, 0, 0, [], R00⟩ none 0 none 0 none 0)) 10 128 undSubs12 hSa hSb hSc hSd rfl (by decide) (.slice oa L.length oc) L.length (rowC L) rfl HTa.out.own ⟨wc2.heap.size, 0, none⟩ 3 3 (rowC [⟨lpS 0 [31], some ⟨b0, 0, none⟩, 1⟩, ⟨lpS 0 [60, -29], some ⟨b1, 0, none⟩, 2⟩, ⟨lpS 0 [63, -31], some ⟨b2, 0, none⟩, 2⟩]) rfl rfl (World.news_of_block (cs := (rowC [⟨lpS 0 [31], some ⟨b0, 0, none⟩, 1⟩, ⟨lpS 0 [60, -29], some ⟨b1, 0, none⟩, 2⟩, ⟨lpS 0 [63, -31], some ⟨b2, 0, none⟩, 2⟩]).toArray) (t := 27) (fr := (0, 0)) (heap_alloc_new _ _)) (rowC_one' _) (by decide) (by unfold maxLen; omega) (by omega) HTa.out.below.size _ rfl ?_; intro gA cA wA ownA groA hatA hltA)
   have HPA : Hid (TS w2 (.slice (some ⟨gA, 0, none⟩) (L.length + 3) cA) (L ++ [⟨lpS 0 [31], some ⟨b0, 0, none⟩, 1⟩, ⟨lpS 0 [60, -29], some ⟨b1, 0, none⟩, 2⟩, ⟨lpS 0 [63, -31], some ⟨b2, 0, none⟩, 2⟩]) wA) := HTa.out.push (M := [⟨lpS 0 [31], some ⟨b0, 0, none⟩, 1⟩, ⟨lpS 0 [60, -29], some ⟨b1, 0, none⟩, 2⟩, ⟨lpS 0 [63, -31], some ⟨b2, 0, none⟩, 2⟩]) ownA groA hatA (fun e he => by
    have hb : ∀ (q : Sb) (bb cc : Nat), IntsAt (wc2.alloc (.cells (rowC [⟨lpS 0 [31], some ⟨b0, 0, none⟩, 1⟩, ⟨lpS 0 [60, -29], some ⟨b1, 0, none⟩, 2⟩, ⟨lpS 0 [63, -31], some ⟨b2, 0, none⟩, 2⟩]).toArray 27)) (some ⟨bb, 0, none⟩) q.C → (∀ k, Value.ownBlock (.slice oa L.length oc) = some k → k < bb) → w2.heap.size ≤ bb → IntsAt (wc2.alloc (.cells (rowC [⟨lpS 0 [31], some ⟨b0, 0, none⟩, 1⟩, ⟨lpS 0 [60, -29], some ⟨b1, 0, none⟩, 2⟩, ⟨lpS 0 [63, -31], some ⟨b2, 0, none⟩, 2⟩]).toArray 27)) (some ⟨bb, 0, none⟩) q.C ∧ (0 < q.C.length → ∀ b, blockOf (some ⟨bb, 0, none⟩) = some b → w2.heap.size ≤ b ∧ Value.ownBlock (.slice oa L.length oc) ≠ some b) := fun q bb cc h1 h2 h3 => ⟨h1, fun _ b hb => by
     have e : bb = b := by simpa [blockOf] using hb
     subst e
     exact ⟨h3, fun e => by have := h2 bb e; omega⟩⟩
    rcases List.mem_cons.1 he with rfl | he
    ·exact hb _ _ 1 HK0.out HS0.out HZ0.out
    rcases List.mem_cons.1 he with rfl | he
    ·exact hb _ _ 2 HK1.out HS1.out HZ1.out
    rcases List.mem_cons.1 he with rfl | he
    ·exact hb _ _ 2 HK2.out HS2.out HZ2.out
    cases he)
   have HM2 : Hid ((L ++ ([⟨lpS 0 [31], some ⟨b0, 0, none⟩, 1⟩, ⟨lpS 0 [60, -29], some ⟨b1, 0, none⟩, 2⟩, ⟨lpS 0 [63, -31], some ⟨b2, 0, none⟩, 2⟩] : List El)).map (·.q) = trL 2 0) := by
    show _ = _
    rw [List.map_append, HMP.out, HJK.out]; rfl
   have HC2 : Hid (CapK (L ++ [⟨lpS 0 [31], some ⟨b0, 0, none⟩, 1⟩, ⟨lpS 0 [60, -29], some ⟨b1, 0, none⟩, 2⟩, ⟨lpS 0 [63, -31], some ⟨b2, 0, none⟩, 2⟩])) := HCK.out.app (fun e he => by
    rcases List.mem_cons.1 he with rfl | he
    ·exact ⟨Nat.le_refl _, fun e => by cases e⟩
    rcases List.mem_cons.1 he with rfl | he
    ·exact ⟨Nat.le_refl _, fun e => by cases e⟩
    rcases List.mem_cons.1 he with rfl | he
    ·exact ⟨Nat.le_refl _, fun e => by cases e⟩
    cases he)
   clear ownA groA hatA hltA
   go_wp2_with fail
   go_ret
   exact ⟨some ⟨gA, 0, none⟩, cA, L ++ [⟨lpS 0 [31], some ⟨b0, 0, none⟩, 1⟩, ⟨lpS 0 [60, -29], some ⟨b1, 0, none⟩, 2⟩, ⟨lpS 0 [63, -31], some ⟨b2, 0, none⟩, 2⟩], by rw [List.length_append]; rfl, by rw [List.length_append]; exact HPA.out, HM2.out, HC2.out⟩
structure PT (v : Value) (gT : Nat) (blk : Obj) (LT : List El) (X : World) : Prop where
 row : X.heap[gT]? = some blk
 off : Off v X gT
 ints : ∀ e ∈ LT, IOff v X e.ca e.q.C
section
variable {v : Value} {gT : Nat} {blk : Obj} {LT : List El} {X X' w1 : World} {g n c : Nat}
theorem PT.low (h : PT v gT blk LT X) (hb : Below X.heap.size X X') : PT v gT blk LT X' := ⟨by rw [hb.block _ (lt_of_block h.row)]; exact h.row, h.off.low hb, fun e he => (h.ints e he).low hb⟩
theorem PT.push (h : PT v gT blk LT X) (hg : X.grownBy w1 v.ownBlock) (hat : v.ownBlock = some g ∨ g = X.heap.size) : PT (.slice (some ⟨g, 0, none⟩) n c) gT blk LT w1 :=
 ⟨by rw [(h.off.push (n := n) (c := c) hg hat).2]; exact h.row, (h.off.push hg hat).1, fun e he => (h.ints e he).push hg hat⟩
end
theorem PT.new {w X : World} {vT v : Value} {LT : List El} {gT cap : Nat} (h : TS w vT LT X) (e : vT = .slice (some ⟨gT, 0, none⟩) LT.length cap) (hv : ∀ k, v.ownBlock = some k → k < w.heap.size) (h0 : 0 < LT.length) :
  ∃ cs : Array Value, PT v gT (.cells cs 27 (0, 0)) LT X ∧ ∀ i, i < LT.length * 10 → cs[i]? = (rowC LT)[i]? := by
 subst e
 rcases h.own.2 with ⟨hv2, hn⟩ | ⟨g', cap', cur, hv2, hge, hg, hle, _, _, ht⟩
 ·cases hv2
 ·cases hv2
  refine ⟨cur, ⟨hg, ⟨lt_of_block hg, fun e => by have := hv _ e; omega⟩, fun e he => (h.ints e he).off hv (fun h0 b hb => (h.apart e he h0 b hb).1)⟩, fun i hi => ?_⟩
  rw [← ht, List.getElem?_take_of_lt hi, Array.getElem?_toList]
theorem row_sub {X : World} {gT : Nat} {cs : Array Value} {LT : List El} (h : X.heap[gT]? = some (.cells cs 27 (0, 0))) (hc : ∀ i, i < LT.length * 10 → cs[i]? = (rowC LT)[i]?) (j : Nat) (e : El) (hj : LT[j]? = some e) (i : Nat) (hi : i < 10) : X.cell? ⟨gT, j * 10 + i, none⟩ = (elC e)[i]? := by
 have hjl : j < LT.length := by
  rcases Nat.lt_or_ge j LT.length with h1 | h1
  ·exact h1
  ·rw [List.getElem?_eq_none h1] at hj; cases hj
 rw [cell_of_row _ _ _ _ _ _ h, hc _ (by omega)]
 exact rowC_get LT j i e hj hi
theorem row_cells {X : World} {gT : Nat} {cs : Array Value} {LT : List El} (h : X.heap[gT]? = some (.cells cs 27 (0, 0))) (hc : ∀ i, i < LT.length * 10 → cs[i]? = (rowC LT)[i]?) (j : Nat) (e : El) (hj : LT[j]? = some e) :
  X.cell? ⟨gT, j * 10, none⟩ = some (.int .i64 e.q.k) ∧ X.cell? ⟨gT, j * 10 + 1, none⟩ = some (.int .i64 e.q.o) ∧ X.cell? ⟨gT, j * 10 + 2, none⟩ = some (.int .i64 e.q.w) ∧ X.cell? ⟨gT, j * 10 + 3, none⟩ = some (.int .i64 e.q.p) ∧ X.cell? ⟨gT, j * 10 + 4, none⟩ = some (.int .i64 e.q.h) ∧ X.cell? ⟨gT, j * 10 + 5, none⟩ = some (.slice e.ca e.q.C.length e.cc) ∧ X.cell? ⟨gT, j * 10 + 6, none⟩ = some (.int .i64 e.q.R.m) ∧ X.cell? ⟨gT, j * 10 + 7, none⟩ = some (.int .i64 e.q.R.o) ∧ X.cell? ⟨gT, j * 10 + 8, none⟩ = some (.slice none e.q.R.P.length 0) ∧ X.cell? ⟨gT, j * 10 + 9, none⟩ = some (.slice none e.q.R.E.length 0) :=
 ⟨row_sub h hc j e hj 0 (by decide), row_sub h hc j e hj 1 (by decide), row_sub h hc j e hj 2 (by decide), row_sub h hc j e hj 3 (by decide), row_sub h hc j e hj 4 (by decide), row_sub h hc j e hj 5 (by decide), row_sub h hc j e hj 6 (by decide), row_sub h hc j e hj 7 (by decide), row_sub h hc j e hj 8 (by decide), row_sub h hc j e hj 9 (by decide)⟩
theorem ordS_top (l : List Int) (hs : ShY l) (b r o : Nat) (ho : o ≤ 4) : ordS l b r o ≤ 18000000000000 := by
 have h1 := chS_le (ordF l b r o) (fun i => ordF_14 l hs b r o i) (2 ^ o)
 have h2 : 2 ^ o ≤ 2 ^ 4 := Nat.pow_le_pow_right (by decide) ho
 unfold ordS
 omega
end Go.Proofs.YthgpleelpeacjaaGreatDoor
