/- Own text. -/
import Derived.Test.YthgpleelpeacjaaGreatDoorChecked
import Derived.Deep.AppendLies
import Derived.BigRegion
import Derived.Test.YthgpleelpeacjaaGreatDoorH5
set_option linter.unusedSimpArgs false
set_option linter.unusedVariables false
set_option maxRecDepth 20000
set_option maxHeartbeats 12800000
namespace Go.Proofs.YthgpleelpeacjaaGreatDoor
open Go.RowKit
theorem wrap_is (n : Int) : IntKind.i64.wrap n = wrap64 n := by unfold wrap64; exact IntKind.wrap_i64 n
theorem tmp_new (X : World) (v : Value) : (X.alloc (.cells #[v] 3)).heap[X.heap.size]? = some (.cells #[v] 3 (0, 0)) := heap_alloc_new _ _
theorem own_low {N : Nat} {e : TypeId} {z : Nat} {v : Value} {n : Nat} {xs : List Value} {w w' : World} (h : w.ownsRow N e z v n xs) (hb : Below w.heap.size w w') : w'.ownsRow N e z v n xs := by
 refine h.kept (row := none) ⟨hb.os, hb.tape, hb.output, hb.size, fun k hk _ => hb.block k hk⟩ ?_
 cases e : v.ownBlock with
 | none => exact .inl rfl
 | some g => exact .inr (fun h => by cases h)
theorem own_ints {N : Nat} {ao : Option Addr} {cap : Nat} {L : List Int} {w : World} (h : w.ownsRow N 3 1 (.slice ao L.length cap) L.length (intsC L)) (hl : L.length ≤ 17592186044415) (hn : ∀ n ∈ L, -9223372036854775808 ≤ n ∧ n ≤ 9223372036854775807) : IntsAt w ao L := by
 refine ⟨hl, hn, fun h0 => ?_⟩
 obtain ⟨g, c, e, _, _⟩ := h.form h0
 simp only [Value.slice.injEq, true_and] at e
 obtain ⟨rfl, rfl⟩ := e
 refine ⟨g, 0, rfl, fun j hj => ?_⟩
 rw [Nat.zero_add, h.cellAt j (by omega)]
 simp [intsC, List.getD_eq_getElem?_getD, List.getElem?_eq_getElem hj]
theorem int_info : ∃ i, Tryz.prog.info? 3 = some i ∧ i.zero = some (.int .i64 0) ∧ i.size = 1 ∧ i.bytes = 8 := by
 have h : (Tryz.prog.info? 3).map (fun i => (i.zero, i.size, i.bytes)) = some (some (.int .i64 0), 1, 8) := by kernel_rfl
 cases hq : Tryz.prog.info? 3 with
 | none => rw [hq] at h; cases h
 | some i =>
  rw [hq] at h
  simp only [Option.map_some, Option.some.injEq, Prod.mk.injEq] at h
  exact ⟨i, rfl, h.1, h.2.1, h.2.2⟩
theorem undI3 : Tryz.prog.underlying 22 = some (.slice 3) := by kernel_rfl
structure Out (w : World) (v : Value) (xs : List Int) (X : World) : Prop where
 own : X.ownsRow w.heap.size 3 1 v xs.length (intsC xs)
 below : Below w.heap.size w X
theorem cell_row {w : World} {b : Nat} {cs : Array Value} {t : TypeId} {fr : Nat × Nat} (h : w.heap[b]? = some (.cells cs t fr)) (j : Nat) : w.cell? ⟨b, j, none⟩ = cs[j]? := by
 simp [World.cell?, h]
theorem ints_new (w : World) (l : List Int) (hl : l.length ≤ 1000) (hn : ∀ n ∈ l, -9223372036854775808 ≤ n ∧ n ≤ 9223372036854775807) : IntsAt (w.alloc (.cells (intsC l).toArray 3)) (some ⟨w.heap.size, 0, none⟩) l := by
 refine ⟨by omega, hn, fun h0 => ⟨w.heap.size, 0, rfl, fun j hj => ?_⟩⟩
 rw [cell_row (heap_alloc_new _ _)]
 rw [Nat.zero_add, List.getElem?_toArray]
 unfold intsC
 rw [List.getElem?_map, List.getElem?_eq_getElem hj, List.getD_eq_getElem?_getD, List.getElem?_eq_getElem hj]
 rfl
def ansL (R : Option (List Int)) : List Int := R.getD []
def ansE (R : Option (List Int)) : Int := match R with
 | none => 1
 | some _ => 0
def Ret2 (R : Option (List Int)) (w : World) (e : Ending) (w' : World) : Prop := ∃ la lc, e = .returned (.tuple #[.slice la (ansL R).length lc, .int .i64 (ansE R)]) ∧ IntsAt w' la (ansL R) ∧ Below w.heap.size w w'
theorem IntsAt.nil (w : World) : IntsAt w none [] := ⟨by simp, by simp, fun h => by simp at h⟩
theorem Out.nil (w : World) : Out w (.slice none 0 0) [] w := ⟨World.ownsRow_nil _ _ _ _, Below.refl _ _⟩
theorem Out.low {w X X' : World} {v : Value} {xs : List Int} (h : Out w v xs X) (hb : Below X.heap.size X X') : Out w v xs X' := ⟨own_low h.own hb, h.below.trans (hb.mono h.below.size)⟩
theorem Out.drew {w X : World} {v : Value} {xs : List Int} (h : Out w v xs X) : Out w v xs X.drew := h.low ⟨rfl, rfl, rfl, Nat.le_refl _, fun _ _ => rfl⟩
theorem Out.alloc {w X : World} {v : Value} {xs : List Int} (h : Out w v xs X) (o : Obj) : Out w v xs (X.alloc o) := h.low ((Below.refl _ _).alloc (Nat.le_refl _) _)
theorem Out.push {w X : World} {v : Value} {xs : List Int} (h : Out w v xs X) {g cap : Nat} {w1 : World} {p : Int} (ho : w1.ownsRow w.heap.size 3 1 (.slice (some ⟨g, 0, none⟩) (xs.length + 1) cap) (xs.length + 1) (intsC xs ++ [.int .i64 p])) (hg : X.grownBy w1 v.ownBlock) : Out w (.slice (some ⟨g, 0, none⟩) (xs.length + 1) cap) (xs ++ [p]) w1 := by
 refine ⟨by rw [List.length_append, intsC_append]; exact ho, h.below.trans ⟨hg.os, hg.tape, hg.output, hg.size, fun k hk => ?_⟩⟩
 exact hg.block k (by have := h.below.size; omega) (fun e => by have := (h.own.lt k e.symm).1; omega)
theorem Out.shape {w X : World} {v : Value} {xs : List Int} (h : Out w v xs X) : ∃ ao cap, v = .slice ao xs.length cap := by
 obtain ⟨ao, cap, h1, _⟩ := owns_shape h.own
 exact ⟨ao, cap, h1⟩
theorem Out.ints {w X : World} {ao : Option Addr} {cap : Nat} {xs : List Int} (h : Out w (.slice ao xs.length cap) xs X) (hl : xs.length ≤ 17592186044415) (hn : ∀ n ∈ xs, -9223372036854775808 ≤ n ∧ n ≤ 9223372036854775807) : IntsAt X ao xs := own_ints h.own hl hn
abbrev subC (q : Sb) (ca : Option Addr) (cc : Nat) (pa : Option Addr) (pc : Nat) (ea : Option Addr) (ec : Nat) : Array Value := #[.int .i64 q.k, .int .i64 q.o, .int .i64 q.w, .int .i64 q.p, .int .i64 q.h, .slice ca q.C.length cc, .int .i64 q.R.m, .int .i64 q.R.o, .slice pa q.R.P.length pc, .slice ea q.R.E.length ec]
abbrev subV (q : Sb) (ca : Option Addr) (cc : Nat) (pa : Option Addr) (pc : Nat) (ea : Option Addr) (ec : Nat) : Value := .agg (subC q ca cc pa pc ea ec)
abbrev I64 (x : Int) : Prop := -9223372036854775808 ≤ x ∧ x ≤ 9223372036854775807
structure SbAt (w : World) (q : Sb) (ca pa ea : Option Addr) : Prop where
 C : IntsAt w ca q.C
 R : RcAt w q.R pa ea
 k : I64 q.k
 o : I64 q.o
 w : I64 q.w
 p : I64 q.p
 h : I64 q.h
theorem SbAt.keep {w w' : World} {q : Sb} {ca pa ea : Option Addr} (a : SbAt w q ca pa ea) (hb : ∀ k, k < w.heap.size → w'.heap[k]? = w.heap[k]?) : SbAt w' q ca pa ea := ⟨a.C.keep hb, a.R.keep hb, a.k, a.o, a.w, a.p, a.h⟩
theorem SbAt.below {w w' : World} {q : Sb} {ca pa ea : Option Addr} (a : SbAt w q ca pa ea) (hb : Below w.heap.size w w') : SbAt w' q ca pa ea := a.keep hb.block
def Fr (n : Nat) (ao : Option Addr) : Prop := ∀ b, blockOf ao = some b → n ≤ b
theorem sub_cells {w : World} {g : Nat} {q : Sb} {ca : Option Addr} {cc : Nat} {pa : Option Addr} {pc : Nat} {ea : Option Addr} {ec : Nat} (h : w.heap[g]? = some (.cells (subC q ca cc pa pc ea ec) 27 (0, 0))) :
  w.cell? ⟨g, 0, none⟩ = some (.int .i64 q.k) ∧ w.cell? ⟨g, 1, none⟩ = some (.int .i64 q.o) ∧ w.cell? ⟨g, 2, none⟩ = some (.int .i64 q.w) ∧ w.cell? ⟨g, 3, none⟩ = some (.int .i64 q.p) ∧ w.cell? ⟨g, 4, none⟩ = some (.int .i64 q.h) ∧ w.cell? ⟨g, 5, none⟩ = some (.slice ca q.C.length cc) ∧ w.cell? ⟨g, 6, none⟩ = some (.int .i64 q.R.m) ∧ w.cell? ⟨g, 7, none⟩ = some (.int .i64 q.R.o) ∧ w.cell? ⟨g, 8, none⟩ = some (.slice pa q.R.P.length pc) ∧ w.cell? ⟨g, 9, none⟩ = some (.slice ea q.R.E.length ec) := by
 refine ⟨?_, ?_, ?_, ?_, ?_, ?_, ?_, ?_, ?_, ?_⟩ <;> (rw [cell_of_row _ _ _ _ _ _ h]; rfl)
theorem ints_same (l : List Int) (a b : Option Addr) (c d : Nat) (w : World) (hl : IntsAt w a l) (hm : IntsAt w b l) :
  Calls Tryz.prog 37 #[.slice a l.length c, .slice b l.length d] w fun e w' => e = .returned (.bool true) ∧ ∃ n, w' = w.drewN n := by
 have h1 := hl.len
 have HL : Hid (IntsAt w a l) := hl
 have HM : Hid (IntsAt w b l) := hm
 clear hl hm
 go_enter Tryz.func37, Tryz.ntmps37
 go_wp2_with fail
 go_loopw [5] (fun t wr => ∃ k n : Nat, k ≤ l.length ∧ t = .int .i64 (k : Int) ∧ wr = w.drewN n) (fun t _ => l.length - (intOf t).toNat)
 case atStart => exact ⟨0, 0, Nat.zero_le _, rfl, rfl⟩
 case round =>
  obtain ⟨k, n, hk, rfl, hw⟩ := hrel
  have HW : Hid (wr = w.drewN n) := hw
  clear hw
  by_cases hlt : k < l.length
  ·obtain ⟨b1, o1, rfl, q1⟩ := HL.out.at k hlt
   obtain ⟨b2, o2, rfl, q2⟩ := HM.out.at k hlt
   have r1 := q1 wr (by rw [HW.out]; exact below_drewN _ _)
   have r2 := q2 wr (by rw [HW.out]; exact below_drewN _ _)
   clear q1 q2
   generalize l.getD k 0 = x at *
   go_wp2_with fail
   go_quiet (fail)
   go_wp2_with fail
   go_roundw
   case rel => exact ⟨k + 1, n + nq, by omega, by go_num, by rw [HW.out, World.drewN_drewN]⟩
   case measure => simp [intOf]; omega
  ·go_wp2_with fail
   go_ret
   exact ⟨rfl, n, HW.out⟩
theorem xfore_spec (C l : List Int) (ca la : Option Addr) (cc lc : Nat) (sh a : Nat) (hsh : sh ≤ 31) (hCa : C.length ≤ a) (hal : a ≤ l.length) (w : World) (hC : IntsAt w ca C) (hl : IntsAt w la l) :
  Calls Tryz.prog 146 #[.slice ca C.length cc, .int .i64 (sh : Int), .slice la l.length lc, .int .i64 (a : Int)] w fun e w' => e = .returned (.int .i64 (foreN C sh l a)) ∧ ∃ n, w' = w.drewN n := by
 have h1 := hl.len
 have HC : Hid (IntsAt w ca C) := hC
 have HL : Hid (IntsAt w la l) := hl
 have HF : Hid (foreN C sh l a = foreS C l a C.length / 2 ^ sh) := rfl
 clear hC hl
 go_enter Tryz.func146, Tryz.ntmps146
 go_wp2_with fail
 go_loopw [9, 10] (fun s t wr => ∃ k n : Nat, k ≤ C.length ∧ t = .int .i64 (k : Int) ∧ s = .int .i64 (foreS C l a k) ∧ wr = w.drewN n) (fun _ t _ => C.length - (intOf t).toNat)
 case atStart => exact ⟨0, 0, Nat.zero_le _, rfl, rfl, rfl⟩
 case round =>
  obtain ⟨k, n, hk, rfl, rfl, hw⟩ := hrel
  have HW : Hid (wr = w.drewN n) := hw
  have hfr := foreS_rng C l a k
  clear hw
  by_cases hlt : k < C.length
  ·obtain ⟨b1, o1, rfl, q1⟩ := HC.out.at k hlt
   obtain ⟨b2, o2, rfl, q2⟩ := HL.out.at (a - 1 - k) (by omega)
   have r1 := q1 wr (by rw [HW.out]; exact below_drewN _ _)
   have r2 := q2 wr (by rw [HW.out]; exact below_drewN _ _)
   have HN : Hid (foreS C l a (k + 1) = wrap64 (foreS C l a k + wrap64 (C.getD k 0 * l.getD (a - 1 - k) 0))) := rfl
   have hix : (a : Int) - 1 - (k : Int) = ((a - 1 - k : Nat) : Int) := by omega
   have hil : a - 1 - k < l.length := by omega
   clear q1 q2
   generalize C.getD k 0 = x at *
   generalize l.getD (a - 1 - k) 0 = y at *
   generalize a - 1 - k = ix at *
   generalize foreS C l a k = su at *
   go_wp2_with fail
   go_quiet (fail)
   go_wp2_with fail
   go_roundw
   case rel => exact ⟨k + 1, n + nq, by omega, by go_num, by rw [HN.out], by rw [HW.out, World.drewN_drewN]⟩
   case measure => simp [intOf]; omega
  ·have hke : k = C.length := by omega
   subst hke
   generalize foreS C l a C.length = su at *
   have hs2 : (sh : Int) ≤ 31 := by omega
   go_wp2_with fail
   go_ret
   exact ⟨by rw [HF.out]; rfl, n, HW.out⟩
theorem rsame_same (c : Rc) (pa : Option Addr) (pc : Nat) (ea : Option Addr) (ec : Nat) (pb : Option Addr) (pd : Nat) (eb : Option Addr) (ed : Nat) (w : World) (hr : RcAt w c pa ea) (hq : RcAt w c pb eb) :
  Calls Tryz.prog 38 #[riceV c pa pc ea ec, riceV c pb pd eb ed] w fun e w' => e = .returned (.bool true) ∧ Below w.heap.size w w' := by
 have HR : Hid (RcAt w c pa ea) := hr
 have HQ : Hid (RcAt w c pb eb) := hq
 have hlP := hr.P.len
 have hlE := hr.E.len
 have HA0 : Hid (RB w c pa pc ea ec ((w.alloc (.cells (riceC c pa pc ea ec) 25)).alloc (.cells (riceC c pb pd eb ed) 25)) ∧ ((w.alloc (.cells (riceC c pa pc ea ec) 25)).alloc (.cells (riceC c pb pd eb ed) 25)).heap[w.heap.size + 1]? = some (.cells (riceC c pb pd eb ed) 25 (0, 0))) := by
  refine ⟨(RB.new w c pa pc ea ec).next ((Below.refl _ _).alloc (Nat.le_refl _) _), ?_⟩
  have hh := heap_alloc_new (w.alloc (.cells (riceC c pa pc ea ec) 25)) (.cells (riceC c pb pd eb ed) 25)
  rw [show (w.alloc (.cells (riceC c pa pc ea ec) 25)).heap.size = w.heap.size + 1 from by simp] at hh
  exact hh
 clear hr hq
 go_enter Tryz.func38, Tryz.ntmps38
 go_wp2_with fail
 generalize hwa : World.alloc _ _ = wa at *
 clear hwa
 go_loopw [5] (fun t wr => ∃ k : Nat, k ≤ c.P.length ∧ t = .int .i64 (k : Int) ∧ RB w c pa pc ea ec wr ∧ wr.heap[w.heap.size + 1]? = some (.cells (riceC c pb pd eb ed) 25 (0, 0))) (fun t _ => c.P.length - (intOf t).toNat)
 case atStart => exact ⟨0, Nat.zero_le _, rfl, HA0.out⟩
 case round =>
  obtain ⟨k, hk, rfl, h1, h2⟩ := hrel
  have HA : Hid (RB w c pa pc ea ec wr ∧ wr.heap[w.heap.size + 1]? = some (.cells (riceC c pb pd eb ed) 25 (0, 0))) := ⟨h1, h2⟩
  have x2 := h1.c2
  have y2 : wr.cell? ⟨w.heap.size + 1, 2, none⟩ = some (.slice pb c.P.length pd) := by rw [cell_of_row _ _ _ _ _ _ h2]; rfl
  by_cases hlt : k < c.P.length
  ·obtain ⟨b1, o1, e1, q1⟩ := HR.out.P.at k hlt
   obtain ⟨b2, o2, e2, q2⟩ := HQ.out.P.at k hlt
   have r1 := q1 wr h1.below
   have r2 := q2 wr h1.below
   rw [e1] at x2
   rw [e2] at y2
   clear q1 q2 e1 e2 h1 h2
   generalize c.P.getD k 0 = x at *
   go_wp2_with fail
   go_quiet (fail)
   go_wp2_with fail
   go_roundw
   case rel => exact ⟨k + 1, by omega, by go_num, HA.out.1.drewN _, HA.out.2⟩
   case measure => simp [intOf]; omega
  ·clear h1 h2
   go_wp2_with fail
   clear HA0
   have HA0 := HA
   clear HA
   go_loopw [6] (fun t wr => ∃ k : Nat, k ≤ c.E.length ∧ t = .int .i64 (k : Int) ∧ RB w c pa pc ea ec wr ∧ wr.heap[w.heap.size + 1]? = some (.cells (riceC c pb pd eb ed) 25 (0, 0))) (fun t _ => c.E.length - (intOf t).toNat)
   case atStart => exact ⟨0, Nat.zero_le _, rfl, HA0.out⟩
   case round =>
    obtain ⟨k, hk, rfl, h1, h2⟩ := hrel
    have HA : Hid (RB w c pa pc ea ec wr ∧ wr.heap[w.heap.size + 1]? = some (.cells (riceC c pb pd eb ed) 25 (0, 0))) := ⟨h1, h2⟩
    have x3 := h1.c3
    have y3 : wr.cell? ⟨w.heap.size + 1, 3, none⟩ = some (.slice eb c.E.length ed) := by rw [cell_of_row _ _ _ _ _ _ h2]; rfl
    by_cases hlt : k < c.E.length
    ·obtain ⟨b1, o1, e1, q1⟩ := HR.out.E.at k hlt
     obtain ⟨b2, o2, e2, q2⟩ := HQ.out.E.at k hlt
     have r1 := q1 wr h1.below
     have r2 := q2 wr h1.below
     rw [e1] at x3
     rw [e2] at y3
     clear q1 q2 e1 e2 h1 h2
     generalize c.E.getD k 0 = x at *
     go_wp2_with fail
     go_quiet (fail)
     go_wp2_with fail
     go_roundw
     case rel => exact ⟨k + 1, by omega, by go_num, HA.out.1.drewN _, HA.out.2⟩
     case measure => simp [intOf]; omega
    ·clear h1 h2
     go_wp2_with fail
     go_ret
     exact ⟨rfl, HA.out.1.below⟩
theorem sub_same (q : Sb) (ca : Option Addr) (cc : Nat) (pa : Option Addr) (pc : Nat) (ea : Option Addr) (ec : Nat) (cb : Option Addr) (cd : Nat) (pb : Option Addr) (pd : Nat) (eb : Option Addr) (ed : Nat) (w : World) (hr : SbAt w q ca pa ea) (hq : SbAt w q cb pb eb) :
  Calls Tryz.prog 10 #[subV q ca cc pa pc ea ec, subV q cb cd pb pd eb ed] w fun e w' => e = .returned (.bool true) ∧ Below w.heap.size w w' := by
 have HA0 : Hid (((w.alloc (.cells (subC q ca cc pa pc ea ec) 27)).alloc (.cells (subC q cb cd pb pd eb ed) 27)).heap[w.heap.size]? = some (.cells (subC q ca cc pa pc ea ec) 27 (0, 0)) ∧ ((w.alloc (.cells (subC q ca cc pa pc ea ec) 27)).alloc (.cells (subC q cb cd pb pd eb ed) 27)).heap[w.heap.size + 1]? = some (.cells (subC q cb cd pb pd eb ed) 27 (0, 0)) ∧ Below w.heap.size w ((w.alloc (.cells (subC q ca cc pa pc ea ec) 27)).alloc (.cells (subC q cb cd pb pd eb ed) 27))) := by
  refine ⟨heap_two _ _ _, ?_, ((Below.refl _ _).alloc (Nat.le_refl _) _).alloc (by simp) _⟩
  have hh := heap_alloc_new (w.alloc (.cells (subC q ca cc pa pc ea ec) 27)) (.cells (subC q cb cd pb pd eb ed) 27)
  rw [show (w.alloc (.cells (subC q ca cc pa pc ea ec) 27)).heap.size = w.heap.size + 1 from by simp] at hh
  exact hh
 have KI : Hid (∀ wx, Below w.heap.size w wx → Calls Tryz.prog 37 #[.slice ca q.C.length cc, .slice cb q.C.length cd] wx fun e w' => e = .returned (.bool true) ∧ ∃ n, w' = wx.drewN n) := fun wx hb => ints_same q.C ca cb cc cd wx (hr.C.below hb) (hq.C.below hb)
 have KR : Hid (∀ wx, Below w.heap.size w wx → Calls Tryz.prog 38 #[riceV q.R pa pc ea ec, riceV q.R pb pd eb ed] wx fun e w' => e = .returned (.bool true) ∧ Below wx.heap.size wx w') := fun wx hb => rsame_same q.R pa pc ea ec pb pd eb ed wx (hr.R.below hb) (hq.R.below hb)
 clear hr hq
 go_enter Tryz.func10, Tryz.ntmps10
 go_upto_region 1 with fail
 generalize hwa : World.alloc _ _ = wa at *
 clear hwa
 obtain ⟨x0, x1, x2, x3, x4, x5, x6, x7, x8, x9⟩ := sub_cells HA0.out.1
 obtain ⟨y0, y1, y2, y3, y4, y5, y6, y7, y8, y9⟩ := sub_cells HA0.out.2.1
 go_wp2_with fail
 refine (KI.out wa HA0.out.2.2).mono ?_
 rintro e w2 ⟨rfl, n2, hw2⟩
 have hb2 : Below wa.heap.size wa w2 := by rw [hw2]; exact below_drewN _ _
 have HB2 : Hid (Below w.heap.size w w2) := HA0.out.2.2.trans (hb2.mono HA0.out.2.2.size)
 have h1 : w2.heap[w.heap.size]? = some (.cells (subC q ca cc pa pc ea ec) 27 (0, 0)) := by rw [hb2.block _ (lt_of_block HA0.out.1)]; exact HA0.out.1
 have h2 : w2.heap[w.heap.size + 1]? = some (.cells (subC q cb cd pb pd eb ed) 27 (0, 0)) := by rw [hb2.block _ (lt_of_block HA0.out.2.1)]; exact HA0.out.2.1
 clear x0 x1 x2 x3 x4 x5 x6 x7 x8 x9 y0 y1 y2 y3 y4 y5 y6 y7 y8 y9 hb2 hw2
 obtain ⟨x0, x1, x2, x3, x4, x5, x6, x7, x8, x9⟩ := sub_cells h1
 obtain ⟨y0, y1, y2, y3, y4, y5, y6, y7, y8, y9⟩ := sub_cells h2
 clear h1 h2
 go_wp2_with fail
 refine (KR.out w2 HB2.out).mono ?_
 rintro e w3 ⟨rfl, hb3⟩
 have HB3 : Hid (Below w.heap.size w w3) := HB2.out.trans (hb3.mono HB2.out.size)
 clear hb3 x0 x1 x2 x3 x4 x5 x6 x7 x8 x9 y0 y1 y2 y3 y4 y5 y6 y7 y8 y9
 go_wp2_with fail
 go_ret
 exact ⟨rfl, HB3.out⟩
theorem xleft_spec (C l : List Int) (ca la : Option Addr) (cc lc : Nat) (sh : Nat) (hsh : sh ≤ 31) (hCl : C.length ≤ l.length) (w : World) (hC : IntsAt w ca C) (hl : IntsAt w la l) :
  Calls Tryz.prog 78 #[.slice ca C.length cc, .int .i64 (sh : Int), .slice la l.length lc] w fun e w' => ∃ v, e = .returned v ∧ Out w v (leftN C sh l (l.length - C.length)) w' := by
 obtain ⟨i3, h3a, h3b, h3c, h3d⟩ := int_info
 have h1 := hl.len
 have KF : Hid (∀ (a : Nat) wx, C.length ≤ a → a ≤ l.length → Below w.heap.size w wx → Calls Tryz.prog 146 #[.slice ca C.length cc, .int .i64 (sh : Int), .slice la l.length lc, .int .i64 (a : Int)] wx fun e w' => e = .returned (.int .i64 (foreN C sh l a)) ∧ ∃ n, w' = wx.drewN n) := fun a wx g1 g2 hb => xfore_spec C l ca la cc lc sh a hsh g1 g2 wx (hC.below hb) (hl.below hb)
 have HL : Hid (IntsAt w la l) := hl
 clear hC hl
 go_enter Tryz.func78, Tryz.ntmps78
 go_wp2_with fail
 go_loopw [7, 8] (fun s t wr => ∃ (i : Nat) (v : Value), C.length ≤ i ∧ i ≤ l.length ∧ t = .int .i64 (i : Int) ∧ s = v ∧ Out w v (leftN C sh l (i - C.length)) wr) (fun _ t _ => l.length - (intOf t).toNat)
 case atStart => exact ⟨C.length, _, Nat.le_refl _, hCl, rfl, rfl, by rw [Nat.sub_self]; exact Out.nil w⟩
 case round =>
  obtain ⟨i, v, hCi, hi, rfl, rfl, hout⟩ := hrel
  obtain ⟨oa, oc, rfl⟩ := hout.shape
  by_cases hlt : i < l.length
  ·obtain ⟨b1, o1, rfl, q1⟩ := HL.out.at i hlt
   have HN : Hid (leftN C sh l (i + 1 - C.length) = leftN C sh l (i - C.length) ++ [wrap64 (l.getD i 0 - foreN C sh l i)]) := by
    show _ = _
    rw [show i + 1 - C.length = (i - C.length) + 1 by omega]
    show leftN C sh l (i - C.length) ++ [wrap64 (l.getD (C.length + (i - C.length)) 0 - foreN C sh l (C.length + (i - C.length)))] = _
    rw [show C.length + (i - C.length) = i by omega]
   have hxl := leftN_len C sh l (i - C.length)
   have hx5 : (leftN C sh l (i - C.length)).length ≤ 17592186044415 := by omega
   clear hxl
   generalize leftN C sh l (i - C.length) = xs at *
   generalize l.getD i 0 = x at *
   have HO : Hid (Out w (.slice oa xs.length oc) xs wr) := hout
   clear hout
   go_wp2_with fail
   refine wp_region_held_drew (S := fun wx => Below w.heap.size w wx) (by kernel_rfl) (HO.out.drew.below) (fun hS => ?_)
   refine wpAnyH_take (i := 0) (v := .slice oa xs.length oc) rfl (by kernel_rfl) (by kernel_rfl) (by kernel_rfl) (fun _ _ _ h => h) (Or.inl ⟨by rfl, fun w hSw => by go_simp⟩) hS ?_
   simp only [Act.put, List.getElem_toArray, List.getElem_cons_succ, List.getElem_cons_zero, List.setIfInBounds_toArray, List.set_cons_zero, List.set_cons_succ]
   refine wpAnyH_take (i := 1) (v := .slice (some ⟨b1, o1, none⟩) l.length lc) rfl (by kernel_rfl) (by kernel_rfl) (by kernel_rfl) (fun _ _ _ h => h) (Or.inl ⟨by rfl, fun w hSw => by go_simp⟩) hS ?_
   simp only [Act.put, List.getElem_toArray, List.getElem_cons_succ, List.getElem_cons_zero, List.setIfInBounds_toArray, List.set_cons_zero, List.set_cons_succ]
   refine wpAnyH_take (i := 2) (v := .int .i64 (i : Int)) rfl (by kernel_rfl) (by kernel_rfl) (by kernel_rfl) (fun _ _ _ h => h) (Or.inl ⟨by rfl, fun w hSw => by go_simp⟩) hS ?_
   simp only [Act.put, List.getElem_toArray, List.getElem_cons_succ, List.getElem_cons_zero, List.setIfInBounds_toArray, List.set_cons_zero, List.set_cons_succ]
   refine wpAnyH_take (i := 3) (v := .pointer (some ⟨b1, o1 + i, none⟩)) rfl (by kernel_rfl) (by kernel_rfl) (by kernel_rfl) (fun _ _ _ h => h) (Or.inl ⟨by rfl, fun w hSw => by go_simp⟩) hS ?_
   simp only [Act.put, List.getElem_toArray, List.getElem_cons_succ, List.getElem_cons_zero, List.setIfInBounds_toArray, List.set_cons_zero, List.set_cons_succ]
   refine wpAnyH_take (i := 4) (v := .int .i64 x) rfl (by kernel_rfl) (by kernel_rfl) (by kernel_rfl) (fun _ _ _ h => h) (Or.inl ⟨by rfl, fun w hSw => by have r1 := q1 w hSw; go_simp⟩) hS ?_
   simp only [Act.put, List.getElem_toArray, List.getElem_cons_succ, List.getElem_cons_zero, List.setIfInBounds_toArray, List.set_cons_zero, List.set_cons_succ]
   refine wpAnyH_take (i := 5) (v := .slice ca C.length cc) rfl (by kernel_rfl) (by kernel_rfl) (by kernel_rfl) (fun _ _ _ h => h) (Or.inl ⟨by rfl, fun w hSw => by go_simp⟩) hS ?_
   simp only [Act.put, List.getElem_toArray, List.getElem_cons_succ, List.getElem_cons_zero, List.setIfInBounds_toArray, List.set_cons_zero, List.set_cons_succ]
   refine wpAnyH_take (i := 6) (v := .int .i64 (sh : Int)) rfl (by kernel_rfl) (by kernel_rfl) (by kernel_rfl) (fun _ _ _ h => h) (Or.inl ⟨by rfl, fun w hSw => by go_simp⟩) hS ?_
   simp only [Act.put, List.getElem_toArray, List.getElem_cons_succ, List.getElem_cons_zero, List.setIfInBounds_toArray, List.set_cons_zero, List.set_cons_succ]
   refine wpAnyH_take (i := 7) (v := .slice (some ⟨b1, o1, none⟩) l.length lc) rfl (by kernel_rfl) (by kernel_rfl) (by kernel_rfl) (fun _ _ _ h => h) (Or.inl ⟨by rfl, fun w hSw => by go_simp⟩) hS ?_
   simp only [Act.put, List.getElem_toArray, List.getElem_cons_succ, List.getElem_cons_zero, List.setIfInBounds_toArray, List.set_cons_zero, List.set_cons_succ]
   refine wpAnyH_take (i := 8) (v := .int .i64 (i : Int)) rfl (by kernel_rfl) (by kernel_rfl) (by kernel_rfl) (fun _ _ _ h => h) (Or.inl ⟨by rfl, fun w hSw => by go_simp⟩) hS ?_
   simp only [Act.put, List.getElem_toArray, List.getElem_cons_succ, List.getElem_cons_zero, List.setIfInBounds_toArray, List.set_cons_zero, List.set_cons_succ]
   refine wpAnyH_ready (rs := [9]) (by kernel_rfl) (by simp) ?_
   refine AllReadyH.cons rfl (fun K hK => ?_) AllReadyH.nil
   go_simp
   refine (KF.out i _ hCi (by omega) hS).mono ?_
   rintro e w5 ⟨rfl, n5, rfl⟩
   have HO5 : Hid (Out w (.slice oa xs.length oc) xs (wr.drew.drewN n5)) := HO.out.drew.low (below_drewN _ _)
   generalize hw5 : wr.drew.drewN n5 = w5 at *
   clear hw5
   generalize foreN C sh l i = fo at *
   refine hK.out _ _ (HO5.out.below) (fun hS9 => ?_)
   clear hK K
   refine wpAnyH_take (i := 10) (v := .int .i64 (wrap64 (x - fo))) rfl (by kernel_rfl) (by kernel_rfl) (by kernel_rfl) (fun _ _ _ h => h) (Or.inl ⟨by rfl, fun w hSw => by go_simp; exact wrap_is _⟩) hS9 ?_
   simp only [Act.put, List.getElem_toArray, List.getElem_cons_succ, List.getElem_cons_zero, List.setIfInBounds_toArray, List.set_cons_zero, List.set_cons_succ]
   refine wpAnyH_ready (rs := [11]) (by kernel_rfl) (by simp) ?_
   refine AllReadyH.cons rfl (fun K hK => ?_) AllReadyH.nil
   go_simp
   refine hK.out _ _ ((HO5.out.alloc _).below) (fun hSbA => ?_)
   clear hK K
   try simp only [Act.put, List.getElem_toArray, List.getElem_cons_succ, List.getElem_cons_zero, List.setIfInBounds_toArray, List.set_cons_zero, List.set_cons_succ]
   refine wpAnyH_ready (rs := [12]) (by kernel_rfl) (by simp) ?_
   refine AllReadyH.cons rfl (fun K hK => ?_) AllReadyH.nil
   refine step_append_lies _ (by rfl) _ _ _ (by rfl) w.heap.size 3 i3 (.int .i64 0) 1 8 undI3 h3a h3b h3c h3d rfl (by decide) (.slice oa xs.length oc) xs.length (intsC xs) (by rfl) (HO5.out.alloc _).own ⟨w5.heap.size, 0, none⟩ 1 1 [.int .i64 (wrap64 (x - fo))] (by rfl) (by rfl) (World.news_of_block (cs := #[.int .i64 (wrap64 (x - fo))]) (t := 3) (fr := (0, 0)) (tmp_new w5 _)) (one_int _ _) (by decide) (by unfold maxLen; omega) (by omega) (HO5.out.alloc _).below.size _ rfl ?_
   intro gA cA wA ownA groA hatA hltA
   have HPA : Hid (Out w (.slice (some ⟨gA, 0, none⟩) (xs.length + 1) cA) (xs ++ [(wrap64 (x - fo))]) wA) := (HO5.out.alloc _).push ownA groA
   clear ownA groA hatA hltA
   refine hK.out _ _ (HPA.out.below) (fun hSaA => ?_)
   clear hK K
   try simp only [Act.put, List.getElem_toArray, List.getElem_cons_succ, List.getElem_cons_zero, List.setIfInBounds_toArray, List.set_cons_zero, List.set_cons_succ]
   refine wpAnyH_take (i := 13) (v := .slice (some ⟨gA, 0, none⟩) (xs.length + 1) cA) rfl (by kernel_rfl) (by kernel_rfl) (by kernel_rfl) (fun _ _ _ h => h) (Or.inl ⟨by rfl, fun w hSw => by go_simp⟩) hSaA ?_
   simp only [Act.put, List.getElem_toArray, List.getElem_cons_succ, List.getElem_cons_zero, List.setIfInBounds_toArray, List.set_cons_zero, List.set_cons_succ]
   refine wpAnyH_done (by kernel_rfl) ?_ _
   go_wp2_with fail
   go_roundw
   case rel => exact ⟨i + 1, _, by omega, by omega, by go_num, rfl, by rw [HN.out]; exact HPA.out⟩
   case measure => simp [intOf]; omega
  ·have hie : i = l.length := by omega
   subst hie
   have HO : Hid (Out w (.slice oa (leftN C sh l (l.length - C.length)).length oc) (leftN C sh l (l.length - C.length)) wr) := hout
   clear hout
   go_wp2_with fail
   go_ret
   exact ⟨_, rfl, HO.out⟩
theorem xweights_spec (o : Nat) (ho : o ≤ 4) (w : World) : Calls Tryz.prog 79 #[.int .i64 (o : Int)] w fun e w' => ∃ ca cc, e = .returned (.slice ca (wF o).length cc) ∧ IntsAt w' ca (wF o) ∧ Below w.heap.size w w' := by
 rcases (show o = 0 ∨ o = 1 ∨ o = 2 ∨ o = 3 ∨ o = 4 by omega) with rfl | rfl | rfl | rfl | rfl
 ·go_enter Tryz.func79, Tryz.ntmps79
  go_wp2_with fail
  go_ret
  exact ⟨none, 0, rfl, IntsAt.nil w, Below.refl _ _⟩
 ·have HI : Hid (IntsAt (w.alloc (.cells #[.int .i64 1] 3)) (some ⟨w.heap.size, 0, none⟩) (wF 1)) := ints_new w (wF 1) (by decide) (by decide)
  have HB : Hid (Below w.heap.size w (w.alloc (.cells #[.int .i64 1] 3))) := (Below.refl _ _).alloc (Nat.le_refl _) _
  go_enter Tryz.func79, Tryz.ntmps79
  go_wp2_with fail
  go_ret
  exact ⟨_, _, rfl, HI.out, HB.out⟩
 ·have HI : Hid (IntsAt (w.alloc (.cells #[.int .i64 2, .int .i64 (-1)] 3)) (some ⟨w.heap.size, 0, none⟩) (wF 2)) := ints_new w (wF 2) (by decide) (by decide)
  have HB : Hid (Below w.heap.size w (w.alloc (.cells #[.int .i64 2, .int .i64 (-1)] 3))) := (Below.refl _ _).alloc (Nat.le_refl _) _
  go_enter Tryz.func79, Tryz.ntmps79
  go_wp2_with fail
  go_ret
  exact ⟨_, _, rfl, HI.out, HB.out⟩
 ·have HI : Hid (IntsAt (w.alloc (.cells #[.int .i64 3, .int .i64 (-3), .int .i64 1] 3)) (some ⟨w.heap.size, 0, none⟩) (wF 3)) := ints_new w (wF 3) (by decide) (by decide)
  have HB : Hid (Below w.heap.size w (w.alloc (.cells #[.int .i64 3, .int .i64 (-3), .int .i64 1] 3))) := (Below.refl _ _).alloc (Nat.le_refl _) _
  go_enter Tryz.func79, Tryz.ntmps79
  go_wp2_with fail
  go_ret
  exact ⟨_, _, rfl, HI.out, HB.out⟩
 ·have HI : Hid (IntsAt (w.alloc (.cells #[.int .i64 4, .int .i64 (-6), .int .i64 4, .int .i64 (-1)] 3)) (some ⟨w.heap.size, 0, none⟩) (wF 4)) := ints_new w (wF 4) (by decide) (by decide)
  have HB : Hid (Below w.heap.size w (w.alloc (.cells #[.int .i64 4, .int .i64 (-6), .int .i64 4, .int .i64 (-1)] 3))) := (Below.refl _ _).alloc (Nat.le_refl _) _
  go_enter Tryz.func79, Tryz.ntmps79
  go_wp2_with fail
  go_ret
  exact ⟨_, _, rfl, HI.out, HB.out⟩
def fixR (o : Int) (l : List Int) : Option (List Int) := if 0 ≤ o ∧ o ≤ 4 ∧ o ≤ (l.length : Int) then some (leftN (wF o.toNat) 0 l (l.length - o.toNat)) else none
def mayB (C : List Int) (sh : Int) : Bool := decide (1 ≤ C.length) && decide (C.length ≤ 32) && decide (0 ≤ sh) && decide (sh ≤ 31)
def lpcR (C : List Int) (sh : Int) (l : List Int) : Option (List Int) := if mayB C sh = true ∧ C.length ≤ l.length then some (leftN C sh.toNat l (l.length - C.length)) else none
theorem ret_none {R : Option (List Int)} (h : R = none) {w w' : World} {e : Ending} (he : e = .returned (.tuple #[.slice none 0 0, .int .i64 1])) (hb : Below w.heap.size w w') : Ret2 R w e w' := by
 subst h; exact ⟨none, 0, he, IntsAt.nil w', hb⟩
theorem ret_some {R : Option (List Int)} {L : List Int} (h : R = some L) {w w' : World} {e : Ending} {la : Option Addr} {lc : Nat} (he : e = .returned (.tuple #[.slice la L.length lc, .int .i64 0])) (hi : IntsAt w' la L) (hb : Below w.heap.size w w') : Ret2 R w e w' := by
 subst h; exact ⟨la, lc, he, hi, hb⟩
theorem mayB_iff (C : List Int) (sh : Int) : mayB C sh = true ↔ 1 ≤ C.length ∧ C.length ≤ 32 ∧ 0 ≤ sh ∧ sh ≤ 31 := by unfold mayB; simp [and_assoc]
theorem xfixed_spec (o : Int) (l : List Int) (la : Option Addr) (lc : Nat) (w : World) (hl : IntsAt w la l) : Calls Tryz.prog 33 #[.int .i64 o, .slice la l.length lc] w (Ret2 (fixR o l) w) := by
 have h1 := hl.len
 by_cases h1 : o < 0
 ·have HR : Hid (fixR o l = none) := by show _ = _; unfold fixR; rw [if_neg (by omega)]
  go_enter Tryz.func33, Tryz.ntmps33
  go_wp2_with fail
  go_ret2
  exact ret_none HR.out rfl (Below.refl _ _)
 ·skip
  by_cases h2 : 4 < o
  ·have HR : Hid (fixR o l = none) := by show _ = _; unfold fixR; rw [if_neg (by omega)]
   go_enter Tryz.func33, Tryz.ntmps33
   go_wp2_with fail
   go_ret2
   exact ret_none HR.out rfl (Below.refl _ _)
  ·skip
   by_cases h3 : (l.length : Int) < o
   ·have HR : Hid (fixR o l = none) := by show _ = _; unfold fixR; rw [if_neg (by omega)]
    go_enter Tryz.func33, Tryz.ntmps33
    go_wp2_with fail
    go_ret2
    exact ret_none HR.out rfl (Below.refl _ _)
   ·skip
    obtain ⟨o', rfl⟩ : ∃ o' : Nat, o = (o' : Int) := ⟨o.toNat, by omega⟩
    have ho4 : o' ≤ 4 := by omega
    have hol : o' ≤ l.length := by omega
    have HR : Hid (fixR (o' : Int) l = some (leftN (wF o') 0 l (l.length - (wF o').length))) := by
     show _ = _
     unfold fixR; rw [if_pos (by omega), wF_len o' ho4]; rfl
    have kw := xweights_spec o' ho4 w
    have hwl := wF_len o' ho4
    have HL : Hid (IntsAt w la l) := hl
    clear hl
    go_enter Tryz.func33, Tryz.ntmps33
    go_wp2_with fail
    refine kw.mono ?_
    rintro e w2 ⟨ca, cc, rfl, hc, hb2⟩
    have kl := xleft_spec (wF o') l ca la cc lc 0 (by omega) (by omega) w2 hc (HL.out.below hb2)
    have HB2 : Hid (Below w.heap.size w w2) := hb2
    have HLN : Hid ((leftN (wF o') 0 l (l.length - (wF o').length)).length ≤ 17592186044415 ∧ ∀ n ∈ leftN (wF o') 0 l (l.length - (wF o').length), -9223372036854775808 ≤ n ∧ n ≤ 9223372036854775807) := ⟨by rw [leftN_len]; omega, leftN_rng _ _ _ _⟩
    clear kw hb2 hc hwl
    generalize leftN (wF o') 0 l (l.length - (wF o').length) = R at *
    go_wp2_with fail
    refine kl.mono ?_
    rintro e w3 ⟨v, rfl, hout⟩
    obtain ⟨ao, ac, rfl⟩ := hout.shape
    have HI : Hid (IntsAt w3 ao R ∧ Below w.heap.size w w3) := ⟨hout.ints HLN.out.1 HLN.out.2, HB2.out.trans (hout.below.mono HB2.out.size)⟩
    clear hout kl
    go_wp2_with fail
    go_ret2
    exact ret_some HR.out rfl HI.out.1 HI.out.2
theorem xmay_spec (C : List Int) (sh : Int) (ca : Option Addr) (cc : Nat) (w : World) (hC : IntsAt w ca C) : Calls Tryz.prog 80 #[.slice ca C.length cc, .int .i64 sh] w fun e w' => e = .returned (.bool (mayB C sh)) ∧ w' = w := by
 have h1 := hC.len
 have HM : Hid (mayB C sh = (decide (1 ≤ C.length) && decide (C.length ≤ 32) && decide (0 ≤ sh) && decide (sh ≤ 31))) := rfl
 clear hC
 by_cases g1 : ¬ 1 ≤ C.length
 ·have hF : mayB C sh = false := by
   cases h : mayB C sh with
   | false => rfl
   | true => rw [mayB_iff] at h; omega
  rw [hF]
  clear HM hF
  go_enter Tryz.func80, Tryz.ntmps80
  go_wp2_with fail
  go_ret
  exact ⟨rfl, rfl⟩
 ·skip
  by_cases g2 : ¬ C.length ≤ 32
  ·have hF : mayB C sh = false := by
    cases h : mayB C sh with
    | false => rfl
    | true => rw [mayB_iff] at h; omega
   rw [hF]
   clear HM hF
   go_enter Tryz.func80, Tryz.ntmps80
   go_wp2_with fail
   go_ret
   exact ⟨rfl, rfl⟩
  ·skip
   by_cases g3 : ¬ 0 ≤ sh
   ·have hF : mayB C sh = false := by
     cases h : mayB C sh with
     | false => rfl
     | true => rw [mayB_iff] at h; omega
    rw [hF]
    clear HM hF
    go_enter Tryz.func80, Tryz.ntmps80
    go_wp2_with fail
    go_ret
    exact ⟨rfl, rfl⟩
   ·skip
    by_cases g4 : ¬ sh ≤ 31
    ·have hF : mayB C sh = false := by
      cases h : mayB C sh with
      | false => rfl
      | true => rw [mayB_iff] at h; omega
     rw [hF]
     clear HM hF
     go_enter Tryz.func80, Tryz.ntmps80
     go_wp2_with fail
     go_ret
     exact ⟨rfl, rfl⟩
    ·skip
     have hF : mayB C sh = true := by rw [mayB_iff]; omega
     rw [hF]
     clear HM hF
     go_enter Tryz.func80, Tryz.ntmps80
     go_wp2_with fail
     go_ret
     exact ⟨rfl, rfl⟩
theorem xlpc_spec (C l : List Int) (sh : Int) (ca la : Option Addr) (cc lc : Nat) (w : World) (hC : IntsAt w ca C) (hl : IntsAt w la l) : Calls Tryz.prog 34 #[.slice ca C.length cc, .int .i64 sh, .slice la l.length lc] w (Ret2 (lpcR C sh l) w) := by
 have km := xmay_spec C sh ca cc w hC
 have h1 := hC.len
 have h2 := hl.len
 have HC : Hid (IntsAt w ca C) := hC
 have HL : Hid (IntsAt w la l) := hl
 clear hC hl
 cases hm : mayB C sh with
 | false =>
  have HR : Hid (lpcR C sh l = none) := by show _ = _; unfold lpcR; rw [hm, if_neg (fun h => by cases h.1)]
  rw [hm] at km
  clear hm
  go_enter Tryz.func34, Tryz.ntmps34
  go_wp2_with fail
  refine km.mono ?_
  rintro e w2 ⟨rfl, rfl⟩
  go_wp2_with fail
  go_ret2
  exact ret_none HR.out rfl (Below.refl _ _)
 | true =>
  obtain ⟨m1, m2, m3, m4⟩ := (mayB_iff C sh).1 hm
  obtain ⟨s', rfl⟩ : ∃ s' : Nat, sh = (s' : Int) := ⟨sh.toNat, by omega⟩
  have hs31 : s' ≤ 31 := by omega
  by_cases hk : C.length ≤ l.length
  ·have hk2 : (C.length : Int) ≤ (l.length : Int) := by omega
   have HR : Hid (lpcR C (s' : Int) l = some (leftN C s' l (l.length - C.length))) := by show _ = _; unfold lpcR; rw [hm, if_pos ⟨rfl, hk⟩]; rfl
   rw [hm] at km
   clear hm
   go_enter Tryz.func34, Tryz.ntmps34
   go_wp2_with fail
   refine km.mono ?_
   rintro e w2 ⟨rfl, rfl⟩
   have kl := xleft_spec C l ca la cc lc s' hs31 hk w2 HC.out HL.out
   have HLN : Hid ((leftN C s' l (l.length - C.length)).length ≤ 17592186044415 ∧ ∀ n ∈ leftN C s' l (l.length - C.length), -9223372036854775808 ≤ n ∧ n ≤ 9223372036854775807) := ⟨by rw [leftN_len]; omega, leftN_rng _ _ _ _⟩
   generalize leftN C s' l (l.length - C.length) = R at *
   clear km
   go_wp2_with fail
   refine kl.mono ?_
   rintro e w3 ⟨v, rfl, hout⟩
   obtain ⟨ao, ac, rfl⟩ := hout.shape
   have HI : Hid (IntsAt w3 ao R ∧ Below w2.heap.size w2 w3) := ⟨hout.ints HLN.out.1 HLN.out.2, hout.below⟩
   clear hout kl
   go_wp2_with fail
   go_ret2
   exact ret_some HR.out rfl HI.out.1 HI.out.2
  ·have HR : Hid (lpcR C (s' : Int) l = none) := by show _ = _; unfold lpcR; rw [if_neg (fun h => hk h.2)]
   have hk2 : (l.length : Int) < (C.length : Int) := by omega
   rw [hm] at km
   clear hm
   go_enter Tryz.func34, Tryz.ntmps34
   go_wp2_with fail
   refine km.mono ?_
   rintro e w2 ⟨rfl, rfl⟩
   go_wp2_with fail
   go_ret2
   exact ret_none HR.out rfl (Below.refl _ _)
theorem make_ints (n : Nat) (hn : n ≤ 17592186044415) (w : World) : (Instr.makeSlice 22 (.int .i64 (n : Int)) (.int .i64 (n : Int))).run Tryz.prog w = .ok (.slice (some ⟨w.heap.size, 0, none⟩) n n) (w.alloc (.cells (madeCells #[.int .i64 0] n) 3)) := by
 obtain ⟨i, h1, h2, h3, h4⟩ := int_info
 have hh := run_make (P := Tryz.prog) w 22 3 i _ undI3 h1 h2 .i64 .i64 (n : Int) (n : Int) (by omega) (Int.le_refl _) (by rw [h4]; omega) (by omega)
 rw [h3] at hh
 simpa [Value.cells] using hh
structure Fill (w : World) (g : Nat) (L : List Int) (i : Nat) (wx : World) : Prop where
 row : ∃ cs : Array Value, wx.heap[g]? = some (.cells cs 3 (0, 0)) ∧ ∀ j, j < L.length → cs[j]? = some (.int .i64 (if j < i then L.getD j 0 else 0))
 below : Below w.heap.size w wx
 le : w.heap.size ≤ g
section
variable {w wx w' : World} {g : Nat} {L : List Int} {i : Nat}
theorem Fill.made (w wx : World) (hb : Below w.heap.size w wx) (L : List Int) : Fill w wx.heap.size L 0 (wx.alloc (.cells (madeCells #[.int .i64 0] L.length) 3)) := by
 refine ⟨⟨_, heap_alloc_new _ _, fun j hj => ?_⟩, hb.alloc hb.size _, hb.size⟩
 rw [if_neg (Nat.not_lt_zero _)]
 simp only [madeCells, Array.getElem?_map, Array.getElem?_range, hj, if_true, Option.map_some]
 have hs : (#[.int .i64 0] : Array Value).size = 1 := rfl
 rw [hs, Nat.mod_one]
 rfl
theorem Fill.low (h : Fill w g L i wx) (hb : Below wx.heap.size wx w') : Fill w g L i w' := by
 obtain ⟨cs, h1, h2⟩ := h.row
 exact ⟨⟨cs, by rw [hb.block _ (lt_of_block h1)]; exact h1, h2⟩, h.below.trans (hb.mono h.below.size), h.le⟩
theorem Fill.drew (h : Fill w g L i wx) : Fill w g L i wx.drew := h.low ⟨rfl, rfl, rfl, Nat.le_refl _, fun _ _ => rfl⟩
theorem Fill.cell (h : Fill w g L i wx) (j : Nat) (hj : j < L.length) : wx.cell? ⟨g, j, none⟩ = some (.int .i64 (if j < i then L.getD j 0 else 0)) := by
 obtain ⟨cs, h1, h2⟩ := h.row
 rw [cell_row h1]; exact h2 j hj
theorem Fill.frozen (h : Fill w g L i wx) (j : Nat) : wx.frozen? ⟨g, j, none⟩ = false := by
 obtain ⟨cs, h1, _⟩ := h.row
 simp [World.frozen?, h1]
theorem Fill.set (h : Fill w g L i wx) (hi : i < L.length) : Fill w g L (i + 1) (wx.setCell ⟨g, i, none⟩ (.int .i64 (L.getD i 0))) := by
 obtain ⟨cs, h1, h2⟩ := h.row
 refine ⟨⟨cs.setIfInBounds i (.int .i64 (L.getD i 0)), heap_setCell_same _ _ _ _ _ _ h1, fun j hj => ?_⟩, h.below.setCell h.le _, h.le⟩
 rw [Array.getElem?_setIfInBounds]
 by_cases e : i = j
 ·subst e
  have hlt : i < cs.size := by
   rcases Nat.lt_or_ge i cs.size with h3 | h3
   ·exact h3
   ·have := h2 i hi; rw [Array.getElem?_eq_none h3] at this; cases this
  rw [if_pos rfl, if_pos hlt, if_pos (by omega)]
 ·rw [if_neg e, h2 j hj]
  by_cases e2 : j < i
  ·rw [if_pos e2, if_pos (by omega)]
  ·rw [if_neg e2, if_neg (by omega)]
end
theorem getD_shr (l : List Int) (k j : Nat) : (shrL l k).getD j 0 = l.getD j 0 / 2 ^ k := by
 unfold shrL
 rw [List.getD_eq_getElem?_getD, List.getD_eq_getElem?_getD, List.getElem?_map]
 cases l[j]? with
 | none => simp
 | some x => rfl
theorem foreS_part (C l : List Int) (i n k : Nat) (hk : k ≤ n) : foreS C ((l.drop i).take n) n k = foreS C l (i + n) k := by
 induction k with
 | zero => rfl
 | succ k ih =>
  unfold foreS
  rw [ih (by omega), getD_part l i n (n - 1 - k) (by omega), show i + (n - 1 - k) = i + n - 1 - k by omega]
theorem foreN_part (C : List Int) (sh : Nat) (l : List Int) (i : Nat) : foreN C sh ((l.drop i).take C.length) C.length = foreN C sh l (i + C.length) := by
 unfold foreN; rw [foreS_part C l i C.length C.length (Nat.le_refl _)]
def shB (k : Int) : Bool := decide (0 ≤ k) && decide (k ≤ 31)
theorem shB_iff (k : Int) : shB k = true ↔ 0 ≤ k ∧ k ≤ 31 := by unfold shB; simp
theorem mayB_sh (C : List Int) (sh : Int) (h1 : 1 ≤ C.length) (h2 : C.length ≤ 32) : mayB C sh = shB sh := by
 unfold mayB shB; simp [h1, h2]
theorem qsh_spec (k : Int) (w : World) : Calls Tryz.prog 139 #[.int .i64 k] w fun e w' => e = .returned (.bool (shB k)) ∧ w' = w := by
 by_cases g1 : ¬ 0 ≤ k
 ·have hF : shB k = false := by
   cases h : shB k with
   | false => rfl
   | true => rw [shB_iff] at h; omega
  rw [hF]
  clear hF
  go_enter Tryz.func139, Tryz.ntmps139
  go_wp2_with fail
  go_ret
  exact ⟨rfl, rfl⟩
 ·skip
  by_cases g2 : ¬ k ≤ 31
  ·have hF : shB k = false := by
    cases h : shB k with
    | false => rfl
    | true => rw [shB_iff] at h; omega
   rw [hF]
   clear hF
   go_enter Tryz.func139, Tryz.ntmps139
   go_wp2_with fail
   go_ret
   exact ⟨rfl, rfl⟩
  ·skip
   have hF : shB k = true := by rw [shB_iff]; omega
   rw [hF]
   clear hF
   go_enter Tryz.func139, Tryz.ntmps139
   go_wp2_with fail
   go_ret
   exact ⟨rfl, rfl⟩
theorem qmay_spec (C : List Int) (sh : Int) (ca : Option Addr) (cc : Nat) (w : World) (hC : IntsAt w ca C) : Calls Tryz.prog 217 #[.slice ca C.length cc, .int .i64 sh] w fun e w' => e = .returned (.bool (mayB C sh)) ∧ w' = w := by
 have h1 := hC.len
 clear hC
 by_cases g1 : ¬ 1 ≤ C.length
 ·have hF : mayB C sh = false := by
   cases h : mayB C sh with
   | false => rfl
   | true => rw [mayB_iff] at h; omega
  rw [hF]
  clear hF
  go_enter Tryz.func217, Tryz.ntmps217
  go_wp2_with fail
  go_ret
  exact ⟨rfl, rfl⟩
 ·skip
  by_cases g2 : ¬ C.length ≤ 32
  ·have hF : mayB C sh = false := by
    cases h : mayB C sh with
    | false => rfl
    | true => rw [mayB_iff] at h; omega
   rw [hF]
   clear hF
   go_enter Tryz.func217, Tryz.ntmps217
   go_wp2_with fail
   go_ret
   exact ⟨rfl, rfl⟩
  ·skip
   rw [mayB_sh C sh (by omega) (by omega)]
   have ks := qsh_spec sh w
   generalize shB sh = bb at *
   go_enter Tryz.func217, Tryz.ntmps217
   go_wp2_with fail
   refine ks.mono ?_
   rintro e w2 ⟨rfl, hw2⟩
   subst hw2
   clear ks
   go_wp2_with fail
   go_ret
   exact ⟨rfl, rfl⟩
theorem qcoefs_spec (o : Nat) (ho : o ≤ 4) (w : World) : Calls Tryz.prog 216 #[.int .i64 (o : Int)] w fun e w' => ∃ ca cc, e = .returned (.slice ca (wF o).length cc) ∧ IntsAt w' ca (wF o) ∧ Below w.heap.size w w' := by
 rcases (show o = 0 ∨ o = 1 ∨ o = 2 ∨ o = 3 ∨ o = 4 by omega) with rfl | rfl | rfl | rfl | rfl
 ·go_enter Tryz.func216, Tryz.ntmps216
  go_wp2_with fail
  go_ret
  exact ⟨none, 0, rfl, IntsAt.nil w, Below.refl _ _⟩
 ·have HI : Hid (IntsAt (w.alloc (.cells #[.int .i64 1] 3)) (some ⟨w.heap.size, 0, none⟩) (wF 1)) := ints_new w (wF 1) (by decide) (by decide)
  have HB : Hid (Below w.heap.size w (w.alloc (.cells #[.int .i64 1] 3))) := (Below.refl _ _).alloc (Nat.le_refl _) _
  go_enter Tryz.func216, Tryz.ntmps216
  go_wp2_with fail
  go_ret
  exact ⟨_, _, rfl, HI.out, HB.out⟩
 ·have HI : Hid (IntsAt (w.alloc (.cells #[.int .i64 2, .int .i64 (-1)] 3)) (some ⟨w.heap.size, 0, none⟩) (wF 2)) := ints_new w (wF 2) (by decide) (by decide)
  have HB : Hid (Below w.heap.size w (w.alloc (.cells #[.int .i64 2, .int .i64 (-1)] 3))) := (Below.refl _ _).alloc (Nat.le_refl _) _
  go_enter Tryz.func216, Tryz.ntmps216
  go_wp2_with fail
  go_ret
  exact ⟨_, _, rfl, HI.out, HB.out⟩
 ·have HI : Hid (IntsAt (w.alloc (.cells #[.int .i64 3, .int .i64 (-3), .int .i64 1] 3)) (some ⟨w.heap.size, 0, none⟩) (wF 3)) := ints_new w (wF 3) (by decide) (by decide)
  have HB : Hid (Below w.heap.size w (w.alloc (.cells #[.int .i64 3, .int .i64 (-3), .int .i64 1] 3))) := (Below.refl _ _).alloc (Nat.le_refl _) _
  go_enter Tryz.func216, Tryz.ntmps216
  go_wp2_with fail
  go_ret
  exact ⟨_, _, rfl, HI.out, HB.out⟩
 ·have HI : Hid (IntsAt (w.alloc (.cells #[.int .i64 4, .int .i64 (-6), .int .i64 4, .int .i64 (-1)] 3)) (some ⟨w.heap.size, 0, none⟩) (wF 4)) := ints_new w (wF 4) (by decide) (by decide)
  have HB : Hid (Below w.heap.size w (w.alloc (.cells #[.int .i64 4, .int .i64 (-6), .int .i64 4, .int .i64 (-1)] 3))) := (Below.refl _ _).alloc (Nat.le_refl _) _
  go_enter Tryz.func216, Tryz.ntmps216
  go_wp2_with fail
  go_ret
  exact ⟨_, _, rfl, HI.out, HB.out⟩
structure Lin (b : Nat) (C : List Int) (ca : Option Addr) (cc sh : Nat) (w : World) : Prop where
 cf : w.cell? ⟨b, 0, none⟩ = some (.slice ca C.length cc)
 sh : w.cell? ⟨b + 1, 0, none⟩ = some (.int .i64 (sh : Int))
 ints : IntsAt w ca C
theorem Lin.below {b : Nat} {C : List Int} {ca : Option Addr} {cc sh : Nat} {w w' : World} (h : Lin b C ca cc sh w) (hb : Below w.heap.size w w') : Lin b C ca cc sh w' :=
 ⟨by rw [World.cell?_of_block (w := w) (hb.block b (lt_cell h.cf))]; exact h.cf, by rw [World.cell?_of_block (w := w) (hb.block (b + 1) (lt_cell h.sh))]; exact h.sh, h.ints.below hb⟩
abbrev linV (b : Nat) : Value := .func (.func 234) #[] #[.pointer (some ⟨b, 0, none⟩), .pointer (some ⟨b + 1, 0, none⟩)]
theorem qlinear_spec (C : List Int) (ca : Option Addr) (cc sh : Nat) (w : World) (hC : IntsAt w ca C) : Calls Tryz.prog 215 #[.slice ca C.length cc, .int .i64 (sh : Int)] w fun e w' => ∃ b, e = .returned (linV b) ∧ Lin b C ca cc sh w' ∧ Below w.heap.size w w' := by
 have HB : Hid (Below w.heap.size w ((w.alloc (.cells #[.slice ca C.length cc] 22)).alloc (.cells #[.int .i64 (sh : Int)] 3))) := ((Below.refl _ _).alloc (Nat.le_refl _) _).alloc (by simp) _
 have HL : Hid (Lin w.heap.size C ca cc sh ((w.alloc (.cells #[.slice ca C.length cc] 22)).alloc (.cells #[.int .i64 (sh : Int)] 3))) := by
  refine ⟨?_, ?_, hC.below HB.out⟩
  ·rw [cell_row (heap_two _ _ _)]; rfl
  ·have hh := heap_alloc_new (w.alloc (.cells #[.slice ca C.length cc] 22)) (.cells #[.int .i64 (sh : Int)] 3)
   rw [show (w.alloc (.cells #[.slice ca C.length cc] 22)).heap.size = w.heap.size + 1 from by simp] at hh
   rw [cell_row hh]; rfl
 clear hC
 go_enter Tryz.func215, Tryz.ntmps215
 go_wp2_with fail
 go_ret
 exact ⟨_, rfl, HL.out, HB.out⟩
theorem qclos_spec (C past : List Int) (ca pa : Option Addr) (cc pc : Nat) (sh b : Nat) (hsh : sh ≤ 31) (hCp : C.length ≤ past.length) (w : World) (hL : Lin b C ca cc sh w) (hp : IntsAt w pa past) :
  Calls Tryz.prog 234 (#[.slice pa past.length pc] ++ #[.pointer (some ⟨b, 0, none⟩), .pointer (some ⟨b + 1, 0, none⟩)]) w fun e w' => e = .returned (.int .i64 (foreN C sh past past.length)) ∧ w' = w := by
 have h1 := hp.len
 have h2 := hL.ints.len
 have c1 := hL.cf
 have c2 := hL.sh
 have HC : Hid (IntsAt w ca C) := hL.ints
 have HP : Hid (IntsAt w pa past) := hp
 have HF : Hid (foreN C sh past past.length = foreS C past past.length C.length / 2 ^ sh) := rfl
 clear hL hp
 go_enter Tryz.func234, Tryz.ntmps234
 go_wp2_with fail
 go_loopw [5, 6, 7, 10] (fun s s6 s7 t wr => ∃ k : Nat, k ≤ C.length ∧ t = .int .i64 (k : Int) ∧ s = .int .i64 (foreS C past past.length k) ∧ wr = w) (fun _ _ _ t _ => C.length - (intOf t).toNat)
 case atStart => exact ⟨0, Nat.zero_le _, rfl, rfl, rfl⟩
 case round =>
  obtain ⟨k, hk, rfl, rfl, rfl⟩ := hrel
  have hfr := foreS_rng C past past.length k
  by_cases hlt : k < C.length
  ·obtain ⟨b1, o1, rfl, q1⟩ := HC.out.at k hlt
   obtain ⟨b2, o2, rfl, q2⟩ := HP.out.at (past.length - 1 - k) (by omega)
   have r1 := q1 wr (Below.refl _ _)
   have r2 := q2 wr (Below.refl _ _)
   have HN : Hid (foreS C past past.length (k + 1) = wrap64 (foreS C past past.length k + wrap64 (C.getD k 0 * past.getD (past.length - 1 - k) 0))) := rfl
   have hix : (past.length : Int) - 1 - (k : Int) = ((past.length - 1 - k : Nat) : Int) := by omega
   have hil : past.length - 1 - k < past.length := by omega
   clear q1 q2
   generalize C.getD k 0 = x at *
   generalize past.getD (past.length - 1 - k) 0 = y at *
   generalize past.length - 1 - k = ix at *
   generalize foreS C past past.length k = su at *
   go_wp2_with fail
   go_roundw
   case rel => exact ⟨k + 1, by omega, by go_num, by rw [HN.out], trivial⟩
   case measure => simp [intOf]; omega
  ·have hke : k = C.length := by omega
   subst hke
   generalize foreS C past past.length C.length = su at *
   have hs2 : (sh : Int) ≤ 31 := by omega
   go_wp2_with fail
   go_ret
   exact ⟨by rw [HF.out]; rfl, rfl⟩
structure Made (w : World) (ao : Option Addr) (cap : Nat) (L : List Int) (wx : World) : Prop where
 at_ : ∃ g, ao = some ⟨g, 0, none⟩ ∧ w.heap.size ≤ g ∧ ∃ cs : Array Value, wx.heap[g]? = some (.cells cs 3 (0, 0)) ∧ ∀ j, j < L.length → cs[j]? = some (.int .i64 (L.getD j 0))
 cap_ : L.length ≤ cap
 len : L.length ≤ 17592186044415
 num : Rng L
 below : Below w.heap.size w wx
section
variable {w wx w' w0 : World} {ao : Option Addr} {cap : Nat} {L : List Int}
theorem Made.ints (h : Made w ao cap L wx) : IntsAt wx ao L := by
 obtain ⟨g, rfl, _, cs, h1, h2⟩ := h.at_
 exact ⟨h.len, h.num, fun _ => ⟨g, 0, rfl, fun j hj => by rw [cell_row h1, Nat.zero_add]; exact h2 j hj⟩⟩
theorem Made.up (h : Made w ao cap L wx) (hb : Below w0.heap.size w0 w) : Made w0 ao cap L wx := by
 obtain ⟨g, h0, h1, h2⟩ := h.at_
 exact ⟨⟨g, h0, Nat.le_trans hb.size h1, h2⟩, h.cap_, h.len, h.num, hb.trans (h.below.mono hb.size)⟩
theorem Made.none_ (h : Made w ao cap L wx) : ao = none → cap = 0 := fun e => by
 obtain ⟨g, h0, _⟩ := h.at_
 rw [e] at h0; cases h0
theorem Made.of_fill {g : Nat} (h : Fill w g L L.length wx) (hc : L.length ≤ cap) (hl : L.length ≤ 17592186044415) (hn : Rng L) : Made w (some ⟨g, 0, none⟩) cap L wx := by
 obtain ⟨cs, h1, h2⟩ := h.row
 exact ⟨⟨g, rfl, h.le, cs, h1, fun j hj => by rw [h2 j hj, if_pos hj]⟩, hc, hl, hn, h.below⟩
end
def RetM (R : Option (List Int)) (w : World) (e : Ending) (w' : World) : Prop := match R with
 | none => e = .returned (.tuple #[.slice none 0 0, .int .i64 1]) ∧ Below w.heap.size w w'
 | some L => ∃ la lc, e = .returned (.tuple #[.slice la L.length lc, .int .i64 0]) ∧ Made w la lc L w'
theorem retM_none {R : Option (List Int)} (h : R = none) {w w' : World} {e : Ending} (he : e = .returned (.tuple #[.slice none 0 0, .int .i64 1])) (hb : Below w.heap.size w w') : RetM R w e w' := by
 subst h; exact ⟨he, hb⟩
theorem retM_some {R : Option (List Int)} {L : List Int} (h : R = some L) {w w' : World} {e : Ending} {la : Option Addr} {lc : Nat} (he : e = .returned (.tuple #[.slice la L.length lc, .int .i64 0])) (hi : Made w la lc L w') : RetM R w e w' := by
 subst h; exact ⟨la, lc, he, hi⟩
end Go.Proofs.YthgpleelpeacjaaGreatDoor
