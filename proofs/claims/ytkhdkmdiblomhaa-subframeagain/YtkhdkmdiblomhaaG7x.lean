/- Own text: lists of numbers and recipes in memory; parts of lists. the walks of the program's small calls. the walks of the program's cuts. -/
import Derived.Test.YtkhdkmdiblomhaaG6x
import Derived.Below
import Derived.WalkKit
import Derived.Deep.OwnRows
import Derived.Test.YtkhdkmdiblomhaaRows
import Derived.RegionTactic
import Derived.Deep.QuietTactic
import Derived.BigQuiet
import Derived.Outline
import Derived.WalkLawsBesides
import Derived.Deep.RegionHeld
import Derived.Deep.RegionHeld3
import Derived.Deep.CutRange
import Derived.Deep.RegionWith
import Derived.Deep.LoopGhost
namespace Go.Proofs.Ytkhdkmdiblomhaa
open Go.RowKit
set_option linter.unusedSimpArgs false
set_option linter.unusedVariables false

/-- A list of numbers in memory. -/
structure IntsAt (w : World) (ao : Option Addr) (l : List Int) : Prop where
  len : l.length ≤ 17592186044415
  num : ∀ n ∈ l, -9223372036854775808 ≤ n ∧ n ≤ 9223372036854775807
  lies : 0 < l.length → ∃ b off, ao = some ⟨b, off, none⟩ ∧ ∀ j, j < l.length → w.cell? ⟨b, off + j, none⟩ = some (.int .i64 (l.getD j 0))
theorem lt_cell {w : World} {a : Addr} {v : Value} (h : w.cell? a = some v) : a.block < w.heap.size := World.block_lt_of_cell? w a h
theorem IntsAt.keep {w w' : World} {ao : Option Addr} {l : List Int} (h : IntsAt w ao l) (hb : ∀ k, k < w.heap.size → w'.heap[k]? = w.heap[k]?) : IntsAt w' ao l := by
  refine ⟨h.len, h.num, fun h0 => ?_⟩
  obtain ⟨b, off, e, hc⟩ := h.lies h0
  refine ⟨b, off, e, fun j hj => ?_⟩
  have h1 := hc j hj
  have h2 := lt_cell h1
  rw [← h1]
  exact World.cell?_of_block (w := w) (hb b h2)
theorem IntsAt.below {w w' : World} {ao : Option Addr} {xs : List Int} (h : IntsAt w ao xs) (hb : Below w.heap.size w w') : IntsAt w' ao xs := h.keep hb.block
theorem IntsAt.drewN {w : World} {ao : Option Addr} {xs : List Int} (h : IntsAt w ao xs) (n : Nat) : IntsAt (w.drewN n) ao xs := h.keep fun k _ => by simp
theorem IntsAt.stays {w w' : World} {ao : Option Addr} {xs : List Int} (h : IntsAt w ao xs) {S : Nat → Prop} (hS : Stays S w w') (hn : ∀ b, blockOf ao = some b → ¬ S b) : IntsAt w' ao xs := by
  refine ⟨h.len, h.num, fun h0 => ?_⟩
  obtain ⟨b, off, e, hc⟩ := h.lies h0
  refine ⟨b, off, e, fun j hj => ?_⟩
  have h1 := hc j hj
  have h2 := lt_cell h1
  rw [← h1]
  exact World.cell?_of_block (w := w) (hS.block b h2 (hn b (by rw [e]; rfl)))
theorem IntsAt.get {w : World} {b off : Nat} {l : List Int} (h : IntsAt w (some ⟨b, off, none⟩) l) (j : Nat) (hj : j < l.length) : w.cell? ⟨b, off + j, none⟩ = some (.int .i64 (l.getD j 0)) := by
  obtain ⟨b', off', e, hc⟩ := h.lies (by omega)
  cases e
  exact hc j hj
theorem IntsAt.rng {w : World} {ao : Option Addr} {l : List Int} (h : IntsAt w ao l) (j : Nat) : -9223372036854775808 ≤ l.getD j 0 ∧ l.getD j 0 ≤ 9223372036854775807 := by
  by_cases hj : j < l.length
  · rw [List.getD_eq_getElem?_getD, List.getElem?_eq_getElem hj]
    exact h.num _ (List.getElem_mem hj)
  · rw [List.getD_eq_getElem?_getD, List.getElem?_eq_none (by omega)]
    decide
theorem IntsAt.addr {w : World} {ao : Option Addr} {l : List Int} (h : IntsAt w ao l) (h0 : 0 < l.length) : ∃ b off, ao = some ⟨b, off, none⟩ := by
  obtain ⟨b, off, e, _⟩ := h.lies h0
  exact ⟨b, off, e⟩
theorem getD_part (l : List Int) (f n j : Nat) (hj : j < n) : ((l.drop f).take n).getD j 0 = l.getD (f + j) 0 := by
  rw [List.getD_eq_getElem?_getD, List.getD_eq_getElem?_getD, List.getElem?_take_of_lt hj, List.getElem?_drop]
/-- a part of a list lies in it. -/
theorem IntsAt.part {w : World} {ao : Option Addr} {l : List Int} (h : IntsAt w ao l) (f n : Nat) (hf : f + n ≤ l.length) (xo : Option Addr) (hx : ∀ b off, ao = some ⟨b, off, none⟩ → 0 < n → xo = some ⟨b, off + f, none⟩) : IntsAt w xo ((l.drop f).take n) := by
  have hl : ((l.drop f).take n).length = n := by rw [List.length_take, List.length_drop]; omega
  refine ⟨by rw [hl]; have := h.len; omega, fun x hx => h.num x (List.mem_of_mem_drop (List.mem_of_mem_take hx)), fun h0 => ?_⟩
  rw [hl] at h0
  obtain ⟨b, off, e, hc⟩ := h.lies (by omega)
  refine ⟨b, off + f, hx b off e h0, fun j hj => ?_⟩
  rw [hl] at hj
  rw [getD_part l f n j hj, show off + f + j = off + (f + j) from by omega]
  exact hc _ (by omega)

def intsC (l : List Int) : List Value := l.map fun n => Value.int .i64 n
theorem intsC_length (l : List Int) : (intsC l).length = l.length := by simp [intsC]
theorem intsC_one (l : List Int) : ∀ u ∈ intsC l, u.oneCell' = true := by
  intro u hu
  obtain ⟨n, _, rfl⟩ := List.mem_map.1 hu
  rfl
theorem intsC_append (l m : List Int) : intsC (l ++ m) = intsC l ++ intsC m := by simp [intsC]

abbrev riceC (c : Rc) (pa : Option Addr) (pc : Nat) (ea : Option Addr) (ec : Nat) : Array Value := #[.int .i64 c.m, .int .i64 c.o, .slice pa c.P.length pc, .slice ea c.E.length ec]
abbrev riceV (c : Rc) (pa : Option Addr) (pc : Nat) (ea : Option Addr) (ec : Nat) : Value := .agg (riceC c pa pc ea ec)
/-- A recipe in memory: its lists; its numbers are an int's. -/
structure RcAt (w : World) (c : Rc) (pa ea : Option Addr) : Prop where
  P : IntsAt w pa c.P
  E : IntsAt w ea c.E
  m1 : -9223372036854775808 ≤ c.m
  m2 : c.m ≤ 9223372036854775807
  o1 : -9223372036854775808 ≤ c.o
  o2 : c.o ≤ 9223372036854775807
theorem RcAt.keep {w w' : World} {c : Rc} {pa ea : Option Addr} (h : RcAt w c pa ea) (hb : ∀ k, k < w.heap.size → w'.heap[k]? = w.heap[k]?) : RcAt w' c pa ea := ⟨h.P.keep hb, h.E.keep hb, h.m1, h.m2, h.o1, h.o2⟩
theorem RcAt.below {w w' : World} {c : Rc} {pa ea : Option Addr} (h : RcAt w c pa ea) (hb : Below w.heap.size w w') : RcAt w' c pa ea := h.keep hb.block

theorem below_drewN (w : World) (n : Nat) : Below w.heap.size w (w.drewN n) := ⟨rfl, rfl, rfl, Nat.le_refl _, fun _ _ => rfl⟩
theorem Below.drewN {B : Nat} {a w : World} (h : Below B a w) (n : Nat) : Below B a (w.drewN n) := ⟨h.os, h.tape, h.output, h.size, h.block⟩
theorem heap_two (w : World) (A B : Obj) : ((w.alloc A).alloc B).heap[w.heap.size]? = some A := by
  have hb : Below (w.heap.size + 1) (w.alloc A) ((w.alloc A).alloc B) := (Below.refl _ _).alloc (by simp) _
  rw [hb.block _ (by omega)]; exact heap_alloc_new _ _
theorem results_one {fn : Func} {p : Tmp} {ty : TypeId} (h : fn.results = #[.cell p ty]) (tmps : Array Value) (P : Program) (w : World) :
    (results fn tmps).run P w = ((asAddr (tmps.getD p undef)).run P w).andThen fun a w₁ => (loadVar ty a).run P w₁ := by
  simp only [results, h]
  simp [Sem.run_bind, Result.andThen]
theorem results_two {fn : Func} {p t : Tmp} {ty : TypeId} (h : fn.results = #[.cell p ty, .tmp t]) (tmps : Array Value) (P : Program) (w : World) :
    (results fn tmps).run P w = ((asAddr (tmps.getD p undef)).run P w).andThen fun a w₁ => ((loadVar ty a).run P w₁).andThen fun x w₂ => .ok (.tuple #[x, tmps.getD t undef]) w₂ := by
  simp only [results, h]
  simp [Sem.run_bind, Result.andThen]
/-- A box of a recipe at the end of memory, and all that was there as it was. -/
structure RB (w : World) (c : Rc) (pa : Option Addr) (pc : Nat) (ea : Option Addr) (ec : Nat) (wx : World) : Prop where
  box : wx.heap[w.heap.size]? = some (.cells (riceC c pa pc ea ec) 24 (0, 0))
  below : Below w.heap.size w wx
section
variable {w wx w' : World} {c : Rc} {pa : Option Addr} {pc : Nat} {ea : Option Addr} {ec : Nat}
theorem lt_of_block {w : World} {k : Nat} {o : Obj} (h : w.heap[k]? = some o) : k < w.heap.size := by
  rcases Nat.lt_or_ge k w.heap.size with h1 | h1
  · exact h1
  · rw [Array.getElem?_eq_none h1] at h; cases h
theorem RB.new (w : World) (c : Rc) (pa : Option Addr) (pc : Nat) (ea : Option Addr) (ec : Nat) : RB w c pa pc ea ec (w.alloc (.cells (riceC c pa pc ea ec) 24)) :=
  ⟨heap_alloc_new _ _, (Below.refl _ _).alloc (Nat.le_refl _) _⟩
theorem RB.next (h : RB w c pa pc ea ec wx) (hb : Below wx.heap.size wx w') : RB w c pa pc ea ec w' :=
  ⟨by rw [hb.block _ (lt_of_block h.box)]; exact h.box, h.below.trans (hb.mono h.below.size)⟩
theorem RB.past (h : RB w c pa pc ea ec wx) (hb : Below (w.heap.size + 1) wx w') : RB w c pa pc ea ec w' :=
  ⟨by rw [hb.block _ (by omega)]; exact h.box, h.below.trans (hb.mono (by omega))⟩
theorem RB.drewN (h : RB w c pa pc ea ec wx) (n : Nat) : RB w c pa pc ea ec (wx.drewN n) :=
  ⟨by simpa using h.box, Below.drewN h.below n⟩
theorem RB.c0 (h : RB w c pa pc ea ec wx) : wx.cell? ⟨w.heap.size, 0, none⟩ = some (.int .i64 c.m) := by rw [cell_of_row _ _ _ _ _ _ h.box]; rfl
theorem RB.c1 (h : RB w c pa pc ea ec wx) : wx.cell? ⟨w.heap.size, 1, none⟩ = some (.int .i64 c.o) := by rw [cell_of_row _ _ _ _ _ _ h.box]; rfl
theorem RB.c2 (h : RB w c pa pc ea ec wx) : wx.cell? ⟨w.heap.size, 2, none⟩ = some (.slice pa c.P.length pc) := by rw [cell_of_row _ _ _ _ _ _ h.box]; rfl
theorem RB.c3 (h : RB w c pa pc ea ec wx) : wx.cell? ⟨w.heap.size, 3, none⟩ = some (.slice ea c.E.length ec) := by rw [cell_of_row _ _ _ _ _ _ h.box]; rfl
end

end Go.Proofs.Ytkhdkmdiblomhaa

namespace Go.Proofs.Ytkhdkmdiblomhaa
open Go.RowKit
set_option linter.unusedSimpArgs false
set_option linter.unusedVariables false

set_option maxRecDepth 20000 in
set_option maxHeartbeats 3200000 in
theorem pw_spec (m : Int) (h0 : 0 ≤ m) (h1 : m ≤ 1) (w : World) :
    Calls Try.prog 79 #[.int .i64 m] w fun e w' => e = .returned (.int .i64 (4 + m)) ∧ w' = w := by
  rcases (show m = 0 ∨ m = 1 by omega) with rfl | rfl
  · go_enter Try.func79, Try.ntmps79
    go_wp2
    go_ret
    exact ⟨rfl, rfl⟩
  · go_enter Try.func79, Try.ntmps79
    go_wp2
    go_ret
    exact ⟨rfl, rfl⟩
set_option maxRecDepth 20000 in
set_option maxHeartbeats 3200000 in
theorem mark_spec (m : Int) (h0 : 0 ≤ m) (h1 : m ≤ 1) (w : World) :
    Calls Try.prog 80 #[.int .i64 m] w fun e w' => e = .returned (.int .i64 (15 + 16 * m)) ∧ w' = w := by
  have KP := fun wx => pw_spec m h0 h1 wx
  rcases (show m = 0 ∨ m = 1 by omega) with rfl | rfl
  · go_enter Try.func80, Try.ntmps80
    go_wp2_with (go_at_call 79; refine (KP _).mono ?_; rintro e w' ⟨rfl, rfl⟩)
    go_ret
    exact ⟨rfl, rfl⟩
  · go_enter Try.func80, Try.ntmps80
    go_wp2_with (go_at_call 79; refine (KP _).mono ?_; rintro e w' ⟨rfl, rfl⟩)
    go_ret
    exact ⟨rfl, rfl⟩
def areB (b r : Int) : Bool := decide (1 ≤ b ∧ b ≤ 65535 ∧ 0 ≤ r ∧ r ≤ 32)
set_option maxRecDepth 20000 in
set_option maxHeartbeats 3200000 in
theorem areOf_spec (b r : Int) (w : World) : Calls Try.prog 75 #[.int .i64 b, .int .i64 r] w fun e w' => e = .returned (.bool (areB b r)) ∧ w' = w := by
  by_cases g0 : b < 1
  · have hd : areB b r = false := decide_eq_false (by omega)
    rw [hd]
    go_enter Try.func75, Try.ntmps75
    go_wp2
    go_ret
    exact ⟨rfl, rfl⟩
  · skip
    by_cases g1 : 65535 < b
    · have hd : areB b r = false := decide_eq_false (by omega)
      rw [hd]
      go_enter Try.func75, Try.ntmps75
      go_wp2
      go_ret
      exact ⟨rfl, rfl⟩
    · skip
      by_cases g2 : r < 0
      · have hd : areB b r = false := decide_eq_false (by omega)
        rw [hd]
        go_enter Try.func75, Try.ntmps75
        go_wp2
        go_ret
        exact ⟨rfl, rfl⟩
      · skip
        by_cases g3 : 32 < r
        · have hd : areB b r = false := decide_eq_false (by omega)
          have hb : decide (r ≤ 32) = false := decide_eq_false (by omega)
          rw [hd]
          go_enter Try.func75, Try.ntmps75
          go_wp2
          go_ret
          exact ⟨rfl, rfl⟩
        · skip
          have hd : areB b r = true := decide_eq_true (by omega)
          have hb : decide (r ≤ 32) = true := decide_eq_true (by omega)
          rw [hd]
          go_enter Try.func75, Try.ntmps75
          go_wp2
          go_ret
          exact ⟨rfl, rfl⟩
set_option maxRecDepth 20000 in
set_option maxHeartbeats 3200000 in
theorem mayBe_spec (m k e : Int) (h0 : 0 ≤ m) (h1 : m ≤ 1) (w : World) : Calls Try.prog 74 #[.int .i64 m, .int .i64 k, .int .i64 e] w fun en w' => en = .returned (.bool (decide (mayOk m k e))) ∧ w' = w := by
  have KM := fun wx => mark_spec m h0 h1 wx
  by_cases he : e = -1
  · subst he
    by_cases g0 : k < 0
    · have hd : decide (mayOk m k (-1)) = false := decide_eq_false (by unfold mayOk; omega)
      rw [hd]
      go_enter Try.func74, Try.ntmps74
      go_wp2
      go_ret
      exact ⟨rfl, rfl⟩
    · skip
      by_cases g1 : ¬ k < 15 + 16 * m
      · have hd : decide (mayOk m k (-1)) = false := decide_eq_false (by unfold mayOk; omega)
        have hb : decide (k < 15 + 16 * m) = false := decide_eq_false (by omega)
        rw [hd]
        go_enter Try.func74, Try.ntmps74
        go_wp2_with (go_at_call 80; refine (KM _).mono ?_; rintro e w' ⟨rfl, rfl⟩)
        go_ret
        exact ⟨rfl, rfl⟩
      · skip
        have hd : decide (mayOk m k (-1)) = true := decide_eq_true (by unfold mayOk; omega)
        have hb : decide (k < 15 + 16 * m) = true := decide_eq_true (by omega)
        rw [hd]
        go_enter Try.func74, Try.ntmps74
        go_wp2_with (go_at_call 80; refine (KM _).mono ?_; rintro e w' ⟨rfl, rfl⟩)
        go_ret
        exact ⟨rfl, rfl⟩
  · have hbe : (e == -1) = false := by rw [beq_eq_false_iff_ne]; exact he
    by_cases g0 : ¬ k = 0
    · have hd : decide (mayOk m k e) = false := decide_eq_false (by unfold mayOk; omega)
      have hb : (k == 0) = false := by rw [beq_eq_false_iff_ne]; exact g0
      rw [hd]
      go_enter Try.func74, Try.ntmps74
      go_wp2
      go_ret
      exact ⟨rfl, rfl⟩
    · skip
      by_cases g1 : e < 0
      · have hd : decide (mayOk m k e) = false := decide_eq_false (by unfold mayOk; omega)
        have hk : k = 0 := by omega
        subst hk
        rw [hd]
        go_enter Try.func74, Try.ntmps74
        go_wp2
        go_ret
        exact ⟨rfl, rfl⟩
      · skip
        by_cases g2 : 31 < e
        · have hd : decide (mayOk m k e) = false := decide_eq_false (by unfold mayOk; omega)
          have hb : decide (e ≤ 31) = false := decide_eq_false (by omega)
          have hk : k = 0 := by omega
          subst hk
          rw [hd]
          go_enter Try.func74, Try.ntmps74
          go_wp2
          go_ret
          exact ⟨rfl, rfl⟩
        · skip
          have hk : k = 0 := by omega
          subst hk
          have hd : decide (mayOk m 0 e) = true := decide_eq_true (by unfold mayOk; omega)
          have hb : decide (e ≤ 31) = true := decide_eq_true (by omega)
          rw [hd]
          go_enter Try.func74, Try.ntmps74
          go_wp2
          go_ret
          exact ⟨rfl, rfl⟩

end Go.Proofs.Ytkhdkmdiblomhaa

namespace Go.Proofs.Ytkhdkmdiblomhaa
open Go.RowKit
set_option linter.unusedSimpArgs false
set_option linter.unusedVariables false

theorem info_cut : (Try.prog.info? 94).map (·.size) = some 3 := by kernel_rfl
abbrev cutV (p s f : Int) : Value := .agg #[.int .i64 p, .int .i64 s, .int .i64 f]
theorem pow15i (o : Nat) (h : o ≤ 15) : (1 : Int) ≤ 2 ^ o ∧ (2 : Int) ^ o ≤ 32768 := by
  have h1 := pow15 o h
  have e : (2 : Int) ^ o = ((2 ^ o : Nat) : Int) := by simp
  rw [e]; omega
set_option maxRecDepth 20000 in
set_option maxHeartbeats 3200000 in
theorem cutOf_yes (b o r : Nat) (h : Cut b o r) (w : World) :
    Calls Try.prog 60 #[.int .i64 (b : Int), .int .i64 (r : Int), .int .i64 (o : Int)] w fun e w' => e = .returned (.tuple #[cutV ((2 ^ o : Nat) : Int) ((b / 2 ^ o : Nat) : Int) (r : Int), .bool true]) ∧ Below w.heap.size w w' := by
  have h1 := h.o15
  have h2 := h.b1
  have h3 := h.b2
  have h4 := h.r2
  have KA : Hid (∀ wx, Calls Try.prog 75 #[.int .i64 (b : Int), .int .i64 (r : Int)] wx fun e w' => e = .returned (.bool true) ∧ w' = wx) := fun wx => (areOf_spec b r wx).mono fun e w' hh => ⟨by rw [hh.1, show areB b r = true from decide_eq_true (by omega)], hh.2⟩
  obtain ⟨hp1, hp2⟩ := pow15i o h1
  have hq : (b : Int).tdiv (2 ^ o) = ((b / 2 ^ o : Nat) : Int) := by rw [Int.tdiv_eq_ediv_of_nonneg (by omega)]; push_cast; rfl
  have hm : (b : Int).tmod (2 ^ o) = 0 := by
    rw [Int.tmod_eq_emod_of_nonneg (by omega)]
    have := Nat.div_add_mod b (2 ^ o); have := h.dv
    have e : ((b % 2 ^ o : Nat) : Int) = 0 := by omega
    rw [← e]; push_cast; rfl
  have hge : decide ((r : Int) ≤ ((b / 2 ^ o : Nat) : Int)) = true := decide_eq_true (by have := h.le; omega)
  have he : ((2 ^ o : Nat) : Int) = 2 ^ o := by simp
  rw [he]
  have hdl : ((b / 2 ^ o : Nat) : Int) ≤ 65535 := by have := Nat.div_le_self b (2 ^ o); omega
  have hd0 : (0 : Int) ≤ ((b / 2 ^ o : Nat) : Int) := Int.natCast_nonneg _
  generalize ((b / 2 ^ o : Nat) : Int) = d at *
  generalize hH : (2 : Int) ^ o = p at *
  clear h he
  go_enter Try.func60, Try.ntmps60
  go_wp2_with (go_at_call 75; refine (KA.out _).mono ?_; rintro e w' ⟨rfl, rfl⟩)
  go_region
  all_goals go_wp2
  generalize hwf : World.drew _ = wf
  have hrow : wf.heap[w.heap.size]? = some (.cells #[.int .i64 p, .int .i64 d, .int .i64 (r : Int)] 94 (0, 0)) := by
    rw [← hwf]; exact heap_two _ _ _
  have hbel : Below w.heap.size w wf := by
    rw [← hwf]; exact (((Below.refl _ _).alloc (Nat.le_refl _) _).alloc (by simp) _).drew
  refine bodyPost_ret (v := .tuple #[.agg #[.int .i64 p, .int .i64 d, .int .i64 (r : Int)], .bool true]) ?_ rfl ⟨rfl, hbel⟩
  rw [results_two rfl]
  have hld := run_loadVar_row (P := Try.prog) (wf) (w.heap.size) 94 94 #[.int .i64 p, .int .i64 d, .int .i64 (r : Int)] (0, 0) _ hrow Try.underlying94 rfl info_cut
  simp [asAddr, Result.andThen, hld]
theorem cut_head {b r o : Int} (h : cutOk b r o) : 0 ≤ o ∧ o ≤ 15 ∧ 1 ≤ b ∧ b ≤ 65535 ∧ 0 ≤ r ∧ r ≤ 32 := ⟨h.1, h.2.1, h.2.2.1, h.2.2.2.1, h.2.2.2.2.1, h.2.2.2.2.2.1⟩
set_option maxRecDepth 20000 in
set_option maxHeartbeats 3200000 in
theorem cutOf_no (b o r : Int) (h : ¬ cutOk b r o) (w : World) :
    Calls Try.prog 60 #[.int .i64 b, .int .i64 r, .int .i64 o] w fun e w' => ∃ p s f, e = .returned (.tuple #[cutV p s f, .bool false]) ∧ Below w.heap.size w w' := by
  have KA : Hid (∀ wx, Calls Try.prog 75 #[.int .i64 b, .int .i64 r] wx fun e w' => e = .returned (.bool (areB b r)) ∧ w' = wx) := fun wx => areOf_spec b r wx
  have HB1 : Hid (∀ o1 o2, Below w.heap.size w (w.alloc o1) ∧ Below w.heap.size w ((w.alloc o1).alloc o2) ∧ Below w.heap.size w ((w.alloc o1).alloc o2).drew) := fun o1 o2 => ⟨(Below.refl _ _).alloc (Nat.le_refl _) _, ((Below.refl _ _).alloc (Nat.le_refl _) _).alloc (by simp) _, (((Below.refl _ _).alloc (Nat.le_refl _) _).alloc (by simp) _).drew⟩
  by_cases g0 : o < 0
  · clear KA
    clear h
    go_enter Try.func60, Try.ntmps60
    go_wp2
    generalize hwf : World.alloc _ _ = wf
    have hrow : wf.heap[w.heap.size]? = some (.cells #[.int .i64 0, .int .i64 0, .int .i64 0] 94 (0, 0)) := by
      rw [← hwf]; exact heap_alloc_new _ _
    have hbel : Below w.heap.size w wf := by
      rw [← hwf]; exact (Below.refl _ _).alloc (Nat.le_refl _) _
    refine bodyPost_ret (v := .tuple #[.agg #[.int .i64 0, .int .i64 0, .int .i64 0], .bool false]) ?_ rfl (by first | exact ⟨0, 0, 0, rfl, hbel⟩ | exact ⟨⟨0, 0, 0, rfl⟩, hbel⟩)
    rw [results_two rfl]
    have hld := run_loadVar_row (P := Try.prog) (wf) (w.heap.size) 94 94 #[.int .i64 0, .int .i64 0, .int .i64 0] (0, 0) _ hrow Try.underlying94 rfl info_cut
    simp [asAddr, Result.andThen, hld]
  · skip
    by_cases g1 : 15 < o
    · clear KA
      clear h
      go_enter Try.func60, Try.ntmps60
      go_wp2
      generalize hwf : World.alloc _ _ = wf
      have hrow : wf.heap[w.heap.size]? = some (.cells #[.int .i64 0, .int .i64 0, .int .i64 0] 94 (0, 0)) := by
        rw [← hwf]; exact heap_alloc_new _ _
      have hbel : Below w.heap.size w wf := by
        rw [← hwf]; exact (Below.refl _ _).alloc (Nat.le_refl _) _
      refine bodyPost_ret (v := .tuple #[.agg #[.int .i64 0, .int .i64 0, .int .i64 0], .bool false]) ?_ rfl (by first | exact ⟨0, 0, 0, rfl, hbel⟩ | exact ⟨⟨0, 0, 0, rfl⟩, hbel⟩)
      rw [results_two rfl]
      have hld := run_loadVar_row (P := Try.prog) (wf) (w.heap.size) 94 94 #[.int .i64 0, .int .i64 0, .int .i64 0] (0, 0) _ hrow Try.underlying94 rfl info_cut
      simp [asAddr, Result.andThen, hld]
    · skip
      by_cases g2 : areB b r = false
      · rw [g2] at KA
        clear h
        go_enter Try.func60, Try.ntmps60
        go_wp2_with (go_at_call 75; refine (KA.out _).mono ?_; rintro e w' ⟨rfl, rfl⟩)
        generalize hwf : World.alloc _ _ = wf
        have hrow : wf.heap[w.heap.size]? = some (.cells #[.int .i64 0, .int .i64 0, .int .i64 0] 94 (0, 0)) := by
          rw [← hwf]; exact heap_alloc_new _ _
        have hbel : Below w.heap.size w wf := by
          rw [← hwf]; exact (Below.refl _ _).alloc (Nat.le_refl _) _
        refine bodyPost_ret (v := .tuple #[.agg #[.int .i64 0, .int .i64 0, .int .i64 0], .bool false]) ?_ rfl (by first | exact ⟨0, 0, 0, rfl, hbel⟩ | exact ⟨⟨0, 0, 0, rfl⟩, hbel⟩)
        rw [results_two rfl]
        have hld := run_loadVar_row (P := Try.prog) (wf) (w.heap.size) 94 94 #[.int .i64 0, .int .i64 0, .int .i64 0] (0, 0) _ hrow Try.underlying94 rfl info_cut
        simp [asAddr, Result.andThen, hld]
      · skip
        obtain ⟨a1, a2, a3, a4⟩ : 1 ≤ b ∧ b ≤ 65535 ∧ 0 ≤ r ∧ r ≤ 32 := by
          cases hq : areB b r with
          | false => exact absurd hq g2
          | true => exact of_decide_eq_true hq
        have g3 : areB b r = true := decide_eq_true ⟨a1, a2, a3, a4⟩
        rw [g3] at KA
        clear g2 g3
        obtain ⟨o, rfl⟩ : ∃ o' : Nat, o = o' := ⟨o.toNat, by omega⟩
        obtain ⟨hp1, hp2⟩ := pow15i o (by omega)
        have hbm : b.tmod (2 ^ o) = b % 2 ^ o := Int.tmod_eq_emod_of_nonneg (by omega)
        have hbd : b.tdiv (2 ^ o) = b / 2 ^ o := Int.tdiv_eq_ediv_of_nonneg (by omega)
        have hdl : b / 2 ^ o ≤ b := Int.ediv_le_self _ (by omega)
        have hd0 : (0 : Int) ≤ b / 2 ^ o := Int.ediv_nonneg (by omega) (by omega)
        have hm0 : (0 : Int) ≤ b % 2 ^ o := Int.emod_nonneg _ (by omega)
        have hm1 : b % 2 ^ o < 2 ^ o := Int.emod_lt_of_pos _ (by omega)
        have hno : ¬ (b % 2 ^ o = 0 ∧ r ≤ b / 2 ^ o) := fun hh => h ⟨by omega, by omega, a1, a2, a3, a4, by simpa using hh.1, by simpa using hh.2⟩
        generalize b / 2 ^ o = d at *
        generalize b % 2 ^ o = m at *
        generalize hH : (2 : Int) ^ o = p at *
        clear h
        by_cases g4 : m = 0
        · have hb1 : (m == 0) = true := by rw [g4]; rfl
          have hb2 : decide (r ≤ d) = false := decide_eq_false (fun hh => hno ⟨g4, hh⟩)
          clear hno
          go_enter Try.func60, Try.ntmps60
          go_wp2_with (go_at_call 75; refine (KA.out _).mono ?_; rintro e w' ⟨rfl, rfl⟩)
          go_region
          all_goals go_wp2
          generalize hwf : World.drew _ = wf
          have hrow : wf.heap[w.heap.size]? = some (.cells #[.int .i64 p, .int .i64 d, .int .i64 r] 94 (0, 0)) := by
            rw [← hwf]; exact heap_two _ _ _
          have hbel : Below w.heap.size w wf := by
            rw [← hwf]; exact (((Below.refl _ _).alloc (Nat.le_refl _) _).alloc (by simp) _).drew
          refine bodyPost_ret (v := .tuple #[.agg #[.int .i64 p, .int .i64 d, .int .i64 r], .bool false]) ?_ rfl (by first | exact ⟨p, d, r, rfl, hbel⟩ | exact ⟨⟨p, d, r, rfl⟩, hbel⟩)
          rw [results_two rfl]
          have hld := run_loadVar_row (P := Try.prog) (wf) (w.heap.size) 94 94 #[.int .i64 p, .int .i64 d, .int .i64 r] (0, 0) _ hrow Try.underlying94 rfl info_cut
          simp [asAddr, Result.andThen, hld]
        · have hb1 : (m == 0) = false := by rw [beq_eq_false_iff_ne]; exact g4
          clear hno
          go_enter Try.func60, Try.ntmps60
          go_wp2_with (go_at_call 75; refine (KA.out _).mono ?_; rintro e w' ⟨rfl, rfl⟩)
          go_region
          all_goals go_wp2
          generalize hwf : World.drew _ = wf
          have hrow : wf.heap[w.heap.size]? = some (.cells #[.int .i64 p, .int .i64 d, .int .i64 r] 94 (0, 0)) := by
            rw [← hwf]; exact heap_two _ _ _
          have hbel : Below w.heap.size w wf := by
            rw [← hwf]; exact (((Below.refl _ _).alloc (Nat.le_refl _) _).alloc (by simp) _).drew
          refine bodyPost_ret (v := .tuple #[.agg #[.int .i64 p, .int .i64 d, .int .i64 r], .bool false]) ?_ rfl (by first | exact ⟨p, d, r, rfl, hbel⟩ | exact ⟨⟨p, d, r, rfl⟩, hbel⟩)
          rw [results_two rfl]
          have hld := run_loadVar_row (P := Try.prog) (wf) (w.heap.size) 94 94 #[.int .i64 p, .int .i64 d, .int .i64 r] (0, 0) _ hrow Try.underlying94 rfl info_cut
          simp [asAddr, Result.andThen, hld]
set_option maxRecDepth 20000 in
set_option maxHeartbeats 3200000 in
theorem count_spec (p s f : Nat) (h1 : p * s ≤ 65535) (h2 : f ≤ 32) (hp : p ≤ 32768) (hs : s ≤ 65535) (w : World) :
    Calls Try.prog 76 #[cutV p s f] w fun e w' => e = .returned (.int .i64 ((p * s : Nat) - (f : Int))) ∧ Below w.heap.size w w' := by
  have e1 : (p : Int) * (s : Int) = ((p * s : Nat) : Int) := by push_cast; rfl
  have e2 : ((p * s : Nat) : Int) ≤ 65535 := by omega
  have e3 : (0 : Int) ≤ ((p * s : Nat) : Int) := Int.natCast_nonneg _
  have HB1 : Hid (∀ o1, Below w.heap.size w (w.alloc o1)) := fun o1 => (Below.refl _ _).alloc (Nat.le_refl _) _
  generalize ((p * s : Nat) : Int) = q at *
  clear h1
  go_enter Try.func76, Try.ntmps76
  go_wp2
  go_ret
  exact ⟨rfl, HB1.out _⟩
theorem undI : Try.prog.underlying 22 = some (.slice (Try.prog.elem 22)) := by kernel_rfl
theorem elemI : Try.prog.elem 22 = 3 := by kernel_rfl
theorem info3' : (Try.prog.info? 3).map (fun i => (i.zero, i.size, i.bytes)) = some (some (.int .i64 0), 1, 8) := by kernel_rfl
theorem size3 (w : World) : (Go.sizeOf 3).run Try.prog w = .ok 1 w := by
  have h := info3'
  cases hq : Try.prog.info? 3 with
  | none => rw [hq] at h; cases h
  | some i =>
    rw [hq] at h
    simp only [Option.map_some, Option.some.injEq, Prod.mk.injEq] at h
    simp [Go.sizeOf, typeInfo, hq, h.2.1]
/-- A part of a list of numbers, by three places. -/
theorem slice_ints3 (a : Option Addr) (n c f t : Nat) (h1 : f ≤ t) (h2 : t ≤ c) (h0 : a = none → c = 0) :
    ∃ xo, (∀ w, (Instr.slice 22 (.slice a n c) (some (.int .i64 (f : Int))) (some (.int .i64 (t : Int))) (some (.int .i64 (t : Int)))).run Try.prog w = .ok (.slice xo (t - f) (t - f)) w) ∧ (xo = none → t - f = 0) ∧ (∀ b off, a = some ⟨b, off, none⟩ → f < t → xo = some ⟨b, off + f, none⟩) ∧ (∀ b, blockOf xo = some b → blockOf a = some b) := by
  cases a with
  | none =>
    have := h0 rfl
    refine ⟨none, fun w => ?_, fun _ => (by omega), fun b off q => (by cases q), fun b hb => hb⟩
    rw [run_slice_lhm w 22 none n c undI .i64 .i64 .i64 _ _ _ (by omega) (by omega) (by omega) (by omega), elemI, size3]
    simp [Result.andThen, sliced]
  | some ad =>
    refine ⟨some (if t = f then ad else ad.add f), fun w => ?_, fun q => (by cases q), fun b off q hlt => ?_, fun b hb => ?_⟩
    · rw [run_slice_lhm w 22 (some ad) n c undI .i64 .i64 .i64 _ _ _ (by omega) (by omega) (by omega) (by omega), elemI, size3]
      simp only [Result.andThen_ok, sliced, Int.toNat_natCast, Option.map_some, Nat.mul_one]
      split <;> rfl
    · cases q
      rw [if_neg (by omega), Addr.add_mid]
    · revert hb
      split
      · exact fun h => h
      · unfold Addr.add; split <;> exact fun h => h
set_option maxRecDepth 20000 in
set_option maxHeartbeats 3200000 in
theorem part_spec (b o r i : Nat) (h : Cut b o r) (hi : i < 2 ^ o) (a : Option Addr) (n c : Nat) (hn : n = b - r) (hc : n ≤ c) (h0 : a = none → c = 0) (P : Int) (w : World) :
    Calls Try.prog 64 #[cutV P ((b / 2 ^ o : Nat) : Int) (r : Int), .slice a n c, .int .i64 (i : Int)] w fun e w' => ∃ xo, e = .returned (.slice xo (frN b o r (i + 1) - frN b o r i) (frN b o r (i + 1) - frN b o r i)) ∧ Below w.heap.size w w' ∧ (xo = none → frN b o r (i + 1) - frN b o r i = 0) ∧ (∀ bb off, a = some ⟨bb, off, none⟩ → 0 < frN b o r (i + 1) - frN b o r i → xo = some ⟨bb, off + frN b o r i, none⟩) ∧ (∀ bb, blockOf xo = some bb → blockOf a = some bb) := by
  have hm := frN_mono b o r i
  have hb := frN_bound h (i + 1) hi
  obtain ⟨xo, hsl, x0, x1, x2⟩ := slice_ints3 a n c (frN b o r i) (frN b o r (i + 1)) hm (by omega) h0
  have HX : Hid ((xo = none → frN b o r (i + 1) - frN b o r i = 0) ∧ (∀ bb off, a = some ⟨bb, off, none⟩ → 0 < frN b o r (i + 1) - frN b o r i → xo = some ⟨bb, off + frN b o r i, none⟩) ∧ (∀ bb, blockOf xo = some bb → blockOf a = some bb)) := ⟨x0, fun bb off e hlt => x1 bb off e (by omega), x2⟩
  clear x0 x1 x2
  have hfs := h.fr_succ i
  have hf0 : (frN b o r i : Int) = max ((frN b o r (i + 1) : Int) - ((b / 2 ^ o : Nat) : Int)) 0 := by
    have : frN b o r i = i * (b / 2 ^ o) - r := rfl
    rw [Nat.add_mul] at hfs
    omega
  have hi2 : i < 32768 := by have := (pow15 o h.o15).2; omega
  have hd : b / 2 ^ o ≤ 65535 := by have := Nat.div_le_self b (2 ^ o); have := h.b2; omega
  have hmul : ((i : Int) + 1) * ((b / 2 ^ o : Nat) : Int) = ((frN b o r (i + 1) : Nat) : Int) + (r : Int) := by
    have e : (((i + 1) * (b / 2 ^ o) : Nat) : Int) = ((frN b o r (i + 1) + r : Nat) : Int) := by rw [hfs]
    push_cast at e
    push_cast
    exact e
  have hr := h.r2
  have hb2 := h.b2
  have HB1 : Hid (∀ o1, Below w.heap.size w (w.alloc o1)) := fun o1 => (Below.refl _ _).alloc (Nat.le_refl _) _
  generalize frN b o r (i + 1) = t at *
  generalize frN b o r i = f at *
  generalize b / 2 ^ o = d at *
  have hd' : (d : Int) ≤ 65535 := by omega
  have ht' : (t : Int) ≤ 65535 := by omega
  have HF : Hid ((f : Int) = max ((t : Int) - (d : Int)) 0) := hf0
  clear hi h hfs hm hf0
  obtain ⟨e, he⟩ : ∃ e : Int, e = (t : Int) + (r : Int) := ⟨_, rfl⟩
  rw [← he] at hmul
  have hsub : e - (r : Int) = (t : Int) := by omega
  have he1 : 0 ≤ e := by omega
  have he2 : e ≤ 70000 := by omega
  clear he
  have HS : Hid (∀ w, (Instr.slice 22 (.slice a n c) (some (.int .i64 (f : Int))) (some (.int .i64 (t : Int))) (some (.int .i64 (t : Int)))).run Try.prog w = .ok (.slice xo (t - f) (t - f)) w) := hsl
  clear hsl
  go_enter Try.func64, Try.ntmps64
  go_upto_region 3 with fail
  have hif : (if (t : Int) - (d : Int) < 0 then 0 else (t : Int) - (d : Int)) = (f : Int) := by have := HF.out; split <;> omega
  rw [hif]
  clear hif HF hb hn hc ht' hsub hmul
  have hsl := HS.out
  go_wp2
  go_ret
  exact ⟨xo, rfl, HB1.out _, HX.out⟩

end Go.Proofs.Ytkhdkmdiblomhaa
