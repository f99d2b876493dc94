/- Own text: boxes, and chunks that a call owns. soundOf (aiff), its first ends. -/
import Derived.Test.YtaepgjheknkojaaP7chunks
import Derived.Laws.OwnMore
import Derived.Deep.Onto
import Derived.Test.YtaepgjheknkojaaQ7small
import Derived.Deep.RegionWith
import Derived.Deep.CutRange
import Derived.Deep.RegionHeld3
namespace Go.Proofs.Ytaepgjheknkojaa
open Go.RowKit
set_option linter.unusedSimpArgs false
set_option linter.unusedVariables false

/-- A box: a block of cells that were laid for one variable. -/
def Box (b : Nat) (d : Array Value) (T : TypeId) (w : World) : Prop := w.heap[b]? = some (.cells d T (0, 0))
section
variable {b : Nat} {d : Array Value} {T : TypeId} {w w' : World}
theorem Box.next (h : Box b d T w) (hB : Below w.heap.size w w') : Box b d T w' := (hB.block _ (lt_of_block h)).trans h
theorem Box.lt (h : Box b d T w) : b < w.heap.size := lt_of_block h
theorem Box.c (h : Box b d T w) (j : Nat) (v : Value) (hv : d[j]? = some v) : w.cell? ⟨b, j, none⟩ = some v := by rw [cell_of_row _ _ _ _ _ _ h]; exact hv
theorem Box.z (h : Box b d T w) (j : Nat) : w.frozen? ⟨b, j, none⟩ = false := by
  have : w.heap[b]? = _ := h
  simp [World.frozen?, this]
theorem Box.set (h : Box b d T w) (j : Nat) (v : Value) : Box b (d.setIfInBounds j v) T (w.setCell ⟨b, j, none⟩ v) := block_set _ _ _ _ _ _ h
theorem Box.other (h : Box b d T w) {a : Addr} (ha : b ≠ a.block) (v : Value) : Box b d T (w.setCell a v) := (Below.heap_setCell _ _ _ _ ha).trans h
theorem Box.new (w : World) (d : Array Value) (T : TypeId) : Box w.heap.size d T (w.alloc (.cells d T)) := heap_alloc_new w _
theorem Box.new2 (w : World) (o : Obj) (d : Array Value) (T : TypeId) : Box (w.heap.size + 1) d T ((w.alloc o).alloc (.cells d T)) := by
  rw [← show (w.alloc o).heap.size = w.heap.size + 1 from by simp]
  exact heap_alloc_new _ _
theorem belA (w : World) (o : Obj) : Below w.heap.size w (w.alloc o) := (Below.refl _ _).alloc (Nat.le_refl _) _
theorem bel2 (w : World) (o1 o2 : Obj) : Below w.heap.size w ((w.alloc o1).alloc o2) := ((Below.refl _ _).alloc (Nat.le_refl _) _).alloc (by simp) _
theorem belD (w : World) : Below w.heap.size w w.drew := ⟨rfl, rfl, rfl, Nat.le_refl _, fun _ _ => rfl⟩
theorem below_next {n : Nat} {w0 w w' : World} (h : Below n w0 w) (hB : Below w.heap.size w w') (hn : n ≤ w.heap.size) : Below n w0 w' := h.trans (hB.mono hn)
end
theorem below_on {w0 w w' : World} (h : Below w0.heap.size w0 w) (hB : Below w.heap.size w w') : Below w0.heap.size w0 w' := h.trans (hB.mono h.size)
theorem res_two_cell {fn : Func} {p t : Tmp} {ty : TypeId} (h : fn.results = #[.cell p ty, .tmp t]) (tmps : Array Value) (P : Program) (w : World) :
    (results fn tmps).run P w = ((asAddr (tmps.getD p undef)).run P w).andThen fun a w₁ => ((loadVar ty a).run P w₁).andThen fun x w₂ => .ok (.tuple #[x, tmps.getD t undef]) w₂ := by
  simp only [results, h]
  simp [Sem.run_bind, Result.andThen]
/-- New memory. -/
def FreshC (B : Nat) (ao : Option Addr) : Prop := ∀ b off, ao = some ⟨b, off, none⟩ → B ≤ b
theorem FreshC.none (B : Nat) : FreshC B none := fun _ _ h => by cases h
theorem ChksAt.own2 {w : World} {B : Nat} {v : Value} {l : List Chk} (h : w.ownsRow B 66 3 v l.length (ccells l)) : ∃ ao cap, v = .slice ao l.length cap ∧ ChksAt w ao l ∧ FreshC B ao := by
  obtain ⟨ao, cap, e, hat⟩ := ChksAt.own h
  refine ⟨ao, cap, e, hat, fun b off q => ?_⟩
  subst q
  exact (h.lt b (by rw [e]; rfl)).1

/-- Chunks that a call owns. -/
def OwnC (B : Nat) (ao : Option Addr) (cap : Nat) (l : List Chk) (w : World) : Prop := w.ownsRow B 66 3 (.slice ao l.length cap) l.length (ccells l)
theorem OwnC.at {B : Nat} {ao : Option Addr} {cap : Nat} {l : List Chk} {w : World} (h : OwnC B ao cap l w) : ChksAt w ao l := by
  obtain ⟨ao', cap', e, hat⟩ := ChksAt.own h
  cases e
  exact hat
theorem OwnC.fresh {B : Nat} {ao : Option Addr} {cap : Nat} {l : List Chk} {w : World} (h : OwnC B ao cap l w) : FreshC B ao := by
  obtain ⟨ao', cap', e, _, hf⟩ := ChksAt.own2 h
  cases e
  exact hf
theorem OwnC.next {B : Nat} {ao : Option Addr} {cap : Nat} {l : List Chk} {w w' : World} (h : OwnC B ao cap l w) (hB : Below w.heap.size w w') : OwnC B ao cap l w' := owns_below h hB
theorem OwnC.mono {B B' : Nat} {ao : Option Addr} {cap : Nat} {l : List Chk} {w : World} (h : OwnC B ao cap l w) (hb : B' ≤ B) : OwnC B' ao cap l w := World.ownsRow.mono h hb
theorem OwnC.other {B : Nat} {ao : Option Addr} {cap : Nat} {l : List Chk} {w : World} (h : OwnC B ao cap l w) {a : Addr} (ha : a.block < B) (v : Value) : OwnC B ao cap l (w.setCell a v) := by
  refine ⟨h.1, ?_⟩
  rcases h.2 with q | ⟨g, c, cur, e, hb, hg, rest⟩
  · exact Or.inl q
  · exact Or.inr ⟨g, c, cur, e, hb, (Below.heap_setCell _ _ _ _ (by omega)).trans hg, rest⟩
/-- Where they lie. -/
theorem OwnC.spot {B : Nat} {ao : Option Addr} {cap : Nat} {l : List Chk} {w : World} (h : OwnC B ao cap l w) (i : Nat) (c : Chk) (hi : l[i]? = some c) :
    ∃ g, ao = some ⟨g, 0, none⟩ ∧ B ≤ g ∧ g < w.heap.size ∧ w.cell? ⟨g, i * 3, none⟩ = some (.string c.id) ∧ w.cell? ⟨g, i * 3 + 1, none⟩ = some (.string c.body) ∧ w.cell? ⟨g, i * 3 + 2, none⟩ = some (.int .i64 c.pad) ∧ (∀ j, w.frozen? ⟨g, j, none⟩ = false) := by
  have hl := (List.getElem?_eq_some_iff.1 hi).1
  rcases h.2 with ⟨_, e0⟩ | ⟨g, c', cur, e, hb, hg, _⟩
  · omega
  · cases e
    obtain ⟨c0, c1, c2⟩ := ccells_get l i c hi
    have hr : w.ownsRow B 66 3 (.slice (some ⟨g, 0, none⟩) l.length cap) l.length (ccells l) := h
    exact ⟨g, rfl, hb, lt_of_block hg, by rw [hr.cellAt (i * 3) (by omega), c0], by rw [hr.cellAt (i * 3 + 1) (by omega), c1], by rw [hr.cellAt (i * 3 + 2) (by omega), c2], fun j => hr.frozenAt j⟩
theorem ccells_set : ∀ (l : List Chk) (i : Nat) (c : Chk) (x : ByteArray), l[i]? = some c → (ccells l).set (i * 3 + 1) (.string x) = ccells (l.set i ⟨c.id, x, c.pad⟩)
  | [], i, c, x, h => by cases h
  | d :: t, 0, c, x, h => by
    cases h
    rfl
  | d :: t, i + 1, c, x, h => by
    have ih := ccells_set t i c x h
    have e : ccells (d :: t) = .string d.id :: .string d.body :: .int .i64 d.pad :: ccells t := rfl
    have e2 : ccells (d :: t.set i ⟨c.id, x, c.pad⟩) = .string d.id :: .string d.body :: .int .i64 d.pad :: ccells (t.set i ⟨c.id, x, c.pad⟩) := rfl
    rw [List.set_cons_succ, e, e2, ← ih, show (i + 1) * 3 + 1 = i * 3 + 1 + 1 + 1 + 1 from by omega]
    rfl
/-- A chunk's Body is written over. -/
theorem OwnC.set {B g : Nat} {cap : Nat} {l : List Chk} {w : World} (h : OwnC B (some ⟨g, 0, none⟩) cap l w) (i : Nat) (c : Chk) (hi : l[i]? = some c) (x : ByteArray) :
    OwnC B (some ⟨g, 0, none⟩) cap (l.set i ⟨c.id, x, c.pad⟩) (w.setCell ⟨g, i * 3 + 1, none⟩ (.string x)) := by
  have hr : w.ownsRow B 66 3 (.slice (some ⟨g, 0, none⟩) l.length cap) l.length (ccells l) := h
  have h2 := hr.stored (i * 3 + 1) (.string x)
  rw [ccells_set l i c x hi] at h2
  unfold OwnC
  rw [List.length_set]
  exact h2.1
set_option maxRecDepth 20000 in
set_option maxHeartbeats 6400000 in
theorem chunks_own (s : ByteArray) (big : Bool) (w : World) (hs : s.size ≤ 140737488351232) :
    Calls Try.prog 48 #[.string s, .bool big] w fun e w' => ∃ ao cap, e = .returned (.tuple #[.slice ao (chunkN (s.size + 1) ⟨big, ⟨#[]⟩, 0⟩ [] s).1.length cap, .int .i64 (chunkN (s.size + 1) ⟨big, ⟨#[]⟩, 0⟩ [] s).2]) ∧ OwnC w.heap.size ao cap (chunkN (s.size + 1) ⟨big, ⟨#[]⟩, 0⟩ [] s).1 w' ∧ Below w.heap.size w w' := by
  have HG0 : Hid (Gc w noS [] w) := ⟨World.ownsRow_nil _ _ _ _, Below.refl _ _⟩
  obtain ⟨R, hR⟩ : ∃ R, chunkN (s.size + 1) ⟨big, ⟨#[]⟩, 0⟩ [] s = R := ⟨_, rfl⟩
  have HR0 : Hid (R = chunkN (s.size + 1) ⟨big, ⟨#[]⟩, 0⟩ [] s) := hR.symm
  rw [hR]
  clear hR
  obtain ⟨iK, hK0, hK1, hK2, hK3⟩ := info_parts5 infoK3
  have HIK : Hid (Try.prog.info? 66 = some iK ∧ iK.zero = some (.agg zeroK) ∧ iK.size = 3 ∧ iK.bytes = 40) := ⟨hK0, hK1, hK2, hK3⟩
  clear hK0 hK1 hK2 hK3
  go_enter Try.func48, Try.ntmps48
  go_wp2_with fail
  refine wp_scope_round 0 (fun a' wr => ∃ (s' : ByteArray) (g : Value) (acc : List Chk) (fuel : Nat) (u7 u8 u9 u10 u11 u12 u13 u14 u15 u16 u17 u18 u19 u20 u21 u22 u23 u24 u25 u26 u27 u28 u29 u30 u31 : Value), a' = { tmps := #[.string s', .bool big, undef, undef, .slice none 0 0, .int .i64 0, g, u7, u8, u9, u10, u11, u12, u13, u14, u15, u16, u17, u18, u19, u20, u21, u22, u23, u24, u25, u26, u27, u28, u29, u30, u31], defers := [] } ∧ s'.size ≤ 140737488351232 ∧ s'.size ≤ fuel ∧ acc.length ≤ 1024 ∧ R = chunkN (fuel + 1) ⟨big, ⟨#[]⟩, 0⟩ acc s' ∧ Gc w g acc wr) (fun a' _ => strSz (a'.tmps.getD 0 undef)) rfl ?_ ?_
  · rintro a' wr ⟨s', g, acc, fuel, u7, u8, u9, u10, u11, u12, u13, u14, u15, u16, u17, u18, u19, u20, u21, u22, u23, u24, u25, u26, u27, u28, u29, u30, u31, rfl, hs', hf, hal, hR, hg⟩
    obtain ⟨va, vc, rfl⟩ := hg.shape
    have HR : Hid (R = chunkN (fuel + 1) ⟨big, ⟨#[]⟩, 0⟩ acc s') := hR
    have HG : Hid (Gc w (.slice va acc.length vc) acc wr) := hg
    clear hR hg HR0 HG0
    by_cases h0 : s'.size = 0
    · have he := isEmpty_true s' h0
      have HE : Hid (R = (acc, 0)) := HR.out.trans (chunkN_end _ _ _ _ h0)
      have HAT : Hid (OwnC w.heap.size va vc acc wr) := HG.out.own
      have HBL : Hid (Below w.heap.size w wr) := HG.out.below
      clear HG HR
      go_wp2_with fail
      simp only [Exit.jump]
      go_ret2
      exact ⟨va, vc, by rw [HE.out]; rfl, by rw [HE.out]; exact HAT.out, HBL.out⟩
    · have he := isEmpty_false s' (by omega)
      cases hb : begB ⟨big, ⟨#[]⟩, 0⟩ s'
      · have ko := begin_no ⟨big, ⟨#[]⟩, 0⟩ s' (acc.length : Int) wr hs' hb
        have HE : Hid (R = ([], 2)) := HR.out.trans (chunkN_bad _ _ _ _ h0 hb)
        clear HR hb
        go_wp2_with fail
        refine ko.mono ?_
        rintro e w2 ⟨rfl, hB⟩
        have HB : Hid (Below w.heap.size w w2) := HG.out.below.trans (hB.mono HG.out.below.size)
        clear ko hB
        go_wp2_with fail
        simp only [Exit.jump]
        go_ret2
        exact ⟨none, 0, by rw [HE.out]; rfl, by rw [HE.out]; exact World.ownsRow_nil _ _ _ _, HB.out.alloc HB.out.size _⟩
      · by_cases h1024 : 1024 ≤ acc.length
        · have ko := begin_full ⟨big, ⟨#[]⟩, 0⟩ s' (acc.length : Int) wr hs' hb (by omega)
          have HE : Hid (R = ([], 5)) := HR.out.trans (chunkN_many _ _ _ _ h0 hb h1024)
          clear HR hb
          go_wp2_with fail
          refine ko.mono ?_
          rintro e w2 ⟨rfl, hB⟩
          have HB : Hid (Below w.heap.size w w2) := HG.out.below.trans (hB.mono HG.out.below.size)
          clear ko hB
          go_wp2_with fail
          simp only [Exit.jump]
          go_ret2
          exact ⟨none, 0, by rw [HE.out]; rfl, by rw [HE.out]; exact World.ownsRow_nil _ _ _ _, HB.out.alloc HB.out.size _⟩
        · have ko := begin_yes ⟨big, ⟨#[]⟩, 0⟩ s' (acc.length : Int) wr hs' hb (by omega)
          have HE : Hid (R = chunkN fuel ⟨big, ⟨#[]⟩, 0⟩ (acc ++ [begC ⟨big, ⟨#[]⟩, 0⟩ s']) (begR ⟨big, ⟨#[]⟩, 0⟩ s')) := HR.out.trans (chunkN_step _ _ _ _ h0 hb h1024)
          have hrs := begR_size ⟨big, ⟨#[]⟩, 0⟩ s' hb
          have hcs := begC_sizes ⟨big, ⟨#[]⟩, 0⟩ s'
          have kw := own_spec (begC ⟨big, ⟨#[]⟩, 0⟩ s') (by omega) (by omega)
          clear HR hb hcs
          generalize begC ⟨big, ⟨#[]⟩, 0⟩ s' = C at *
          generalize begR ⟨big, ⟨#[]⟩, 0⟩ s' = X at *
          obtain ⟨fuel', rfl⟩ : ∃ f', fuel = f' + 1 := ⟨fuel - 1, by omega⟩
          go_wp2_with fail
          refine ko.mono ?_
          rintro e w2 ⟨rfl, hB⟩
          have HG2 : Hid (Gc w (.slice va acc.length vc) acc (w2.alloc (.cells (chkC C) 66))) := (HG.out.next hB).next ((Below.refl _ _).alloc (Nat.le_refl _) _)
          clear ko hB HG
          go_wp2_with fail
          refine (kw _).mono ?_
          rintro e w4 ⟨rfl, hB4⟩
          have HG4 : Hid (Gc w (.slice va acc.length vc) acc (w4.alloc (.cells (chkC C) 66))) := (HG2.out.next hB4).next ((Below.refl _ _).alloc (Nat.le_refl _) _)
          have HNW : Hid (∀ j u, [Value.string C.id, .string C.body, .int .i64 C.pad][j]? = some u → (w4.alloc (.cells (chkC C) 66)).cell? ((⟨w4.heap.size, 0, none⟩ : Addr).add j) = some u) := fun j u hj => three_cells (w := w4) (e := 66) j u hj
          clear kw hB4 HG2
          go_wp2_with (at_builtin; refine wpList_append_row _ rfl (.tmp 26) (.tmp 29) 25 rfl w.heap.size 66 iK (.agg zeroK) 3 40 Try.underlying25 HIK.out.1 HIK.out.2.1 HIK.out.2.2.1 HIK.out.2.2.2 rfl (by decide) (.slice va acc.length vc) acc.length _ rfl HG4.out.own ⟨w4.heap.size, 0, none⟩ 1 1 [.string C.id, .string C.body, .int .i64 C.pad] rfl rfl HNW.out (by simp [Value.oneCell']) (by simp only [maxLen]; omega) (by omega) HG4.out.below.size ?_; intro v6 w6 ho6 hg6)
          have HG6 : Hid (Gc w v6 (acc ++ [C]) w6) := HG4.out.push ho6.out hg6.out
          go_step3
          refine ⟨rfl, ⟨X, v6, acc ++ [C], fuel', _, _, _, _, _, _, _, _, _, _, _, _, _, _, _, _, _, _, _, _, _, _, _, _, _, rfl, by omega, by omega, by rw [List.length_append]; simp; omega, HE.out, HG6.out⟩, ?_⟩
          show X.size < s'.size
          omega
  · intro hp
    go_wp2_with fail
    go_step3
    rename_i hgo
    refine hgo _ _ ?_
    refine hp _ _ ⟨s, noS, [], s.size, _, _, _, _, _, _, _, _, _, _, _, _, _, _, _, _, _, _, _, _, _, _, _, _, _, rfl, hs, Nat.le_refl _, by simp, HR0.out, HG0.out⟩

end Go.Proofs.Ytaepgjheknkojaa

namespace Go.Proofs.Ytaepgjheknkojaa
open Go.RowKit
set_option linter.unusedSimpArgs false
set_option linter.unusedVariables false

theorem snd_ret7 {wf : World} {b : Nat} {d : Array Value} (h : Box b d 44 wf) (hd : d.size = 5) (a' : Act) (n : Value) (h2 : a'.tmps.getD 4 undef = .pointer (some ⟨b, 0, none⟩)) (h3 : a'.tmps.getD 5 undef = n) :
    (results Try.f34 a'.tmps).run Try.prog wf = .ok (.tuple #[.agg d, n]) wf := by
  rw [res_two_cell rfl]
  have hld := run_loadVar_row (P := Try.prog) wf b 44 44 d (0, 0) _ h Try.underlying44 rfl (by rw [hd]; exact infoS7)
  simp [h2, h3, asAddr, Result.andThen, hld]
theorem againE_com (s : ByteArray) (c : Bool) : againE (comX s c) = if beI s 0 2 == 0 then 2 else if decide (8 < beI s 0 2) || !wdB (beI s 6 8) then 3 else if decide (1048576 < beI s 2 6) then 5 else 0 := by
  unfold againE comX
  rfl
/-- comm's error, in soundOf's order. -/
theorem comE_eq (s : ByteArray) (c : Bool) : comE s c = if wholeB s c then (if (kindT s c).toList != noneT.toList && (kindT s c).toList != sowtT.toList then 3 else if ((frV (bytesOf (s.extract 8 18))).2 : Int) != 0 then ((frV (bytesOf (s.extract 8 18))).2 : Int) else againE (comX s c)) else 2 := by
  have hr := beI_range s 6 8 (by omega)
  have hw : (beI s 6 8 % 8 != 0 || (decide (beI s 6 8 < 8) || decide (32 < beI s 6 8))) = !wdB (beI s 6 8) := by
    unfold wdB
    generalize beI s 6 8 = x at *
    by_cases h : x = 8 ∨ x = 16 ∨ x = 24 ∨ x = 32
    · rcases h with rfl | rfl | rfl | rfl <;> decide
    · have e1 : (x == 8 || (x == 16 || (x == 24 || x == 32))) = false := by
        rw [Bool.or_eq_false_iff, Bool.or_eq_false_iff, Bool.or_eq_false_iff, beq_eq_false_iff_ne, beq_eq_false_iff_ne, beq_eq_false_iff_ne, beq_eq_false_iff_ne]
        omega
      rw [e1, Bool.eq_iff_iff]
      simp
      omega
  cases c
  · have e : wholeB s false = !((s.size : Int) != 18) := by
      unfold wholeB
      rw [if_neg (by decide), Bool.eq_iff_iff]
      simp
      omega
    unfold comE
    rw [e, hw, againE_com]
    clear e hw hr
    generalize frV (bytesOf (s.extract 8 18)) = FR at *
    generalize beI s 0 2 = b1 at *
    generalize beI s 2 6 = b2 at *
    generalize wdB (beI s 6 8) = b3 at *
    cases h : (s.size : Int) != 18
    · have n1 : ((kindT s false).toList != noneT.toList) = false := by
        show (noneT.toList != noneT.toList) = false
        simp
      rw [n1]
      simp only [Bool.not_false, Bool.true_and, Bool.false_and, Bool.or_self, Bool.false_eq_true, if_false, if_true]
    · simp only [Bool.not_false, Bool.true_and, Bool.false_and, Bool.or_false, Bool.true_or, Bool.not_true, Bool.false_eq_true, if_false, if_true]
  · have e : wholeB s true = (!decide ((s.size : Int) < 23) && !((s.size : Int) != (comN s : Int))) := by
      unfold wholeB
      rw [if_pos rfl, Bool.eq_iff_iff]
      simp
      omega
    unfold comE
    rw [e, hw, againE_com]
    clear e hw hr
    generalize frV (bytesOf (s.extract 8 18)) = FR at *
    generalize beI s 0 2 = b1 at *
    generalize beI s 2 6 = b2 at *
    generalize wdB (beI s 6 8) = b3 at *
    cases h : decide ((s.size : Int) < 23)
    · cases h2 : (s.size : Int) != (comN s : Int)
      · simp only [Bool.not_true, Bool.not_false, Bool.true_and, Bool.false_and, Bool.or_self, Bool.false_eq_true, if_false, if_true]
        show _ = if (s.extract 18 22).toList != noneT.toList && (s.extract 18 22).toList != sowtT.toList then _ else _
        rfl
      · simp only [Bool.not_true, Bool.not_false, Bool.true_and, Bool.and_true, Bool.and_false, Bool.false_and, Bool.or_self, Bool.false_eq_true, if_false, if_true]
    · simp only [Bool.not_true, Bool.not_false, Bool.true_and, Bool.and_true, Bool.and_false, Bool.false_and, Bool.or_true, Bool.false_eq_true, if_false, if_true]
theorem comX_lit (s : ByteArray) (c : Bool) : (comX s c).lit = ((kindT s c).toList == sowtT.toList) := by
  cases c
  · show false = (noneT.toList == sowtT.toList)
    rw [none_list, sowt_list]
    decide
  · rfl
theorem whole_size (s : ByteArray) (c : Bool) (h : wholeB s c = true) : 18 ≤ s.size ∧ (c = true → 22 ≤ s.size) := by
  unfold wholeB at h
  cases c
  · rw [if_neg (by decide)] at h
    have := of_decide_eq_true h
    exact ⟨by omega, fun q => by cases q⟩
  · rw [if_pos rfl] at h
    have := of_decide_eq_true (Bool.and_eq_true_iff.1 h).1
    exact ⟨by omega, fun _ => by omega⟩

set_option maxRecDepth 20000 in
set_option maxHeartbeats 3200000 in
theorem soundOf7_whole (f s : ByteArray) (hs : s.size ≤ 140737488351232) (h1 : wholeB s (kB f) = false) (w : World) :
    Calls Try.prog 34 #[.string f, .string s] w fun e w' => e = .returned (.tuple #[.agg (sndC7 (comR s (kB f))), .int .i64 (comE s (kB f))]) ∧ Below w.heap.size w w' := by
  have HE : Hid (comE s (kB f) = 2) := by show _ = _; rw [comE_eq, h1]; rfl
  have HR : Hid (comR s (kB f) = noCom) := if_neg (by rw [HE.out]; decide)
  have HX0 : Hid (Box w.heap.size zeroS7 44 (w.alloc (.cells zeroS7 44)) ∧ Below w.heap.size w (w.alloc (.cells zeroS7 44))) := ⟨Box.new _ _ _, belA _ _⟩
  have kw := isWhole_spec f s hs
  rw [h1] at kw
  go_enter Try.func34, Try.ntmps34
  go_wp2_with fail
  refine (kw _).mono ?_
  rintro e w2 ⟨rfl, rfl⟩
  clear kw
  go_wp2_with fail
  exact bodyPost_ret (v := .tuple #[.agg zeroS7, .int .i64 (2)]) (snd_ret7 HX0.out.1 rfl _ _ rfl rfl) rfl ⟨by rw [HR.out, HE.out]; rfl, HX0.out.2⟩

set_option maxRecDepth 20000 in
set_option maxHeartbeats 3200000 in
theorem soundOf7_kind (f s : ByteArray) (hs : s.size ≤ 140737488351232) (h1 : wholeB s (kB f) = true) (h2 : ((kindT s (kB f)).toList == noneT.toList) = false) (h3 : ((kindT s (kB f)).toList == sowtT.toList) = false) (w : World) :
    Calls Try.prog 34 #[.string f, .string s] w fun e w' => e = .returned (.tuple #[.agg (sndC7 (comR s (kB f))), .int .i64 (comE s (kB f))]) ∧ Below w.heap.size w w' := by
  have HE : Hid (comE s (kB f) = 3) := by show _ = _; rw [comE_eq, h1]; simp only [bne, h2, h3]; rfl
  have HR : Hid (comR s (kB f) = noCom) := if_neg (by rw [HE.out]; decide)
  have HX0 : Hid (Box w.heap.size zeroS7 44 (w.alloc (.cells zeroS7 44)) ∧ Below w.heap.size w (w.alloc (.cells zeroS7 44))) := ⟨Box.new _ _ _, belA _ _⟩
  have hz := whole_size s (kB f) h1
  have kw := isWhole_spec f s hs
  rw [h1] at kw
  have kc := compOf_spec f s hz.2
  rw [none_list] at h2
  rw [sowt_list] at h3
  generalize kindT s (kB f) = KT at *
  clear hz
  go_enter Try.func34, Try.ntmps34
  go_wp2_with fail
  refine (kw _).mono ?_
  rintro e w2 ⟨rfl, rfl⟩
  clear kw
  go_wp2_with fail
  refine (kc _).mono ?_
  rintro e w2 ⟨rfl, rfl⟩
  clear kc
  go_wp2_with fail
  exact bodyPost_ret (v := .tuple #[.agg zeroS7, .int .i64 (3)]) (snd_ret7 HX0.out.1 rfl _ _ rfl rfl) rfl ⟨by rw [HR.out, HE.out]; rfl, HX0.out.2⟩

/-- soundOf's boxes: the answer's, and what was read. -/
structure Jsx (w0 : World) (Q : Nat) (x : Com) (w : World) : Prop where
  res : Box w0.heap.size zeroS7 44 w
  bx : Box Q (sndC7 x) 44 w
  below : Below w0.heap.size w0 w
theorem Jsx.next {w0 w w1 : World} {Q : Nat} {x : Com} (h : Jsx w0 Q x w) (hB : Below w.heap.size w w1) : Jsx w0 Q x w1 := ⟨h.res.next hB, h.bx.next hB, below_on h.below hB⟩
theorem Jsx.new {w0 w : World} (hr : Box w0.heap.size zeroS7 44 w) (hB : Below w0.heap.size w0 w) (x : Com) : Jsx w0 w.heap.size x (w.alloc (.cells (sndC7 x) 44)).drew :=
  ⟨(hr.next (belA w _)).next (belD _), (Box.new w _ _).next (belD _), below_on (below_on hB (belA w _)) (belD _)⟩

end Go.Proofs.Ytaepgjheknkojaa
