/- Own text: blocks that came in as arguments, opened. -/
import Derived.Test.YtfmpiidnemhijaaDoorQ13awk
import Derived.Test.YtfmpiidnemhijaaDoorRows
import Derived.ProofKit
import Derived.OpenShut
import Derived.SizedLaws
import Derived.Lib.SmallJoins
import Derived.Deep.Slices
import Derived.Deep.Strs
import Derived.Deep.Matrix
import Derived.Test.YtfmpiidnemhijaaDoorCards
import Derived.Test.YtfmpiidnemhijaaDoorTie
import Derived.LaidMore
import Derived.Stop.Joined
import Derived.Lib.LaidTab
namespace Go.Proofs.YtfmpiidnemhijaaDoor
open Go.ChangeShapes Go.WideShapes Go.ChangeAt Go.RowKit Go.Deep Go.Joins
set_option linter.unusedSimpArgs false
set_option linter.unusedVariables false

theorem acells3 : Tryd.prog.cellsOf 3 = 1 := by kernel_rfl
theorem acells9 : Tryd.prog.cellsOf 9 = 1 := by kernel_rfl
theorem acellsB : Tryd.prog.cellsOf 36 = 2 := by kernel_rfl
theorem acellsT : Tryd.prog.cellsOf 23 = 9 := by kernel_rfl
theorem abytesB : Tryd.prog.bytesOf 36 = 24 := by kernel_rfl
theorem weights_all {H : Type} (P : Program) (e : TypeId) : ∀ (l : List (DataW H)) (d : DataW H), d ∈ l → ∀ n ∈ d.weights P e, n ∈ DataW.weightsAll P e l
  | [], d, h, n, hn => by cases h
  | x :: r, d, h, n, hn => by
    have e1 : DataW.weightsAll P e (x :: r) = x.weights P e ++ DataW.weightsAll P e r := rfl
    rw [e1]
    rcases List.mem_cons.1 h with h | h
    · subst h
      exact List.mem_append.2 (.inl hn)
    · exact List.mem_append.2 (.inr (weights_all P e r d h n hn))
theorem at_spot {w : World} {a : Addr} {v : Value} (h : w.cell? (a.add 0) = some v) : ∃ b off, a = ⟨b, off, none⟩ := by
  obtain ⟨b, off, spot⟩ := a
  cases spot with
  | none => exact ⟨b, off, rfl⟩
  | some x =>
    exfalso
    unfold Addr.add World.cell? at h
    split at h <;> simp at h
theorem str_len (s : ByteArray) : s.data.toList.length = s.size := by rw [Array.length_toList]; rfl
/-- A block as it reads. -/
def blkD {H : Type} (c : Blk) : DataW H := .agg [.lit (.int .i64 c.ty), .lit (.string c.body.data.toList)]
/-- How much a list of blocks holds. -/
def bulkL (l : List Blk) : Nat := (l.map fun c => c.body.size + 3).sum
theorem bulk_blk {H : Type} (c : Blk) : Rows.uptoBulk (blkD (H := H) c) = c.body.size + 3 := by
  unfold blkD
  simp only [Rows.uptoBulk, Rows.uptoBulkAll, str_len]
  omega
theorem bulk_all {H : Type} : ∀ l : List Blk, Rows.uptoBulkAll (l.map (blkD (H := H))) = bulkL l
  | [] => rfl
  | c :: t => by
    have ih := bulk_all (H := H) t
    have e : Rows.uptoBulkAll ((c :: t).map (blkD (H := H))) = Rows.uptoBulk (blkD (H := H) c) + Rows.uptoBulkAll (t.map (blkD (H := H))) := by
      rw [List.map_cons]
      simp only [Rows.uptoBulkAll]
    have e2 : bulkL (c :: t) = (c.body.size + 3) + bulkL t := by unfold bulkL; simp
    rw [e, ih, bulk_blk, e2]
theorem weight_blk {H : Type} (c : Blk) (h : ∀ n ∈ (blkD (H := H) c).weights Tryd.prog 36, n ≤ reachBytes) : c.body.size ≤ 140737488351232 := by
  have hm : c.body.size ∈ (blkD (H := H) c).weights Tryd.prog 36 := by
    unfold blkD
    simp [DataW.weights, Tryd.underlying36, DataW.weightsEach, str_len]
  have := h _ hm
  simp only [reachBytes] at this
  omega
set_option maxRecDepth 20000 in
/-- A block's two cells, opened. -/
theorem open_blk_cells {H : Type} {enc : TypeId × Value → H} {w : World} {base : Nat} {held : Bool} {fuel : Nat} {cs : List Value} {x : DataW H × List MemPlace} (h : DataW.trod enc Tryd.prog w base (fun _ => true) held fuel 36 cs = some x) :
    ∃ c : Blk, cs = [.int .i64 c.ty, .string c.body] ∧ x.1 = blkD c ∧ x.2 = [] ∧ I64 c.ty := by
  obtain ⟨y0, y1, m, rfl, hl, h0, h1⟩ := trod_struct2 Tryd.underlying36 h
  rw [acellsB] at hl
  obtain ⟨z0, e0, f0, q0⟩ := DataW.trod_int Tryd.underlying3 h0
  obtain ⟨s1, e1, f1, _⟩ := DataW.trod_string Tryd.underlying9 h1
  match cs, hl with
  | [c0, c1], _ =>
    simp [acells9] at e1
    simp [acells3] at e0
    subst e0 e1
    refine ⟨⟨z0, s1⟩, rfl, ?_, ?_, bounds_i64 q0⟩
    · rw [f0, f1]
      rfl
    · rw [f0, f1]
      rfl
set_option maxRecDepth 20000 in
/-- A block as an argument. -/
theorem open_blk {H : Type} {enc : TypeId × Value → H} {w : World} {base : Nat} {held : Bool} {r : Reach} {v : Value} {d : DataW H} {q : List MemPlace} (hv : Value.okWide Tryd.prog w r base 36 v) (h : DataW.Trod enc Tryd.prog w 0 (fun _ => true) held 36 v d q) (hw : ∀ n ∈ d.weights Tryd.prog 36, n ≤ reachBytes) :
    ∃ c : Blk, v = blkV c ∧ c.body.size ≤ 140737488351232 := by
  obtain ⟨cs, rfl, hs⟩ := okWide_struct Tryd.underlying36 hv
  obtain ⟨fuel, hf⟩ := h
  obtain ⟨c, hc, hd, _, _⟩ := open_blk_cells hf
  have hd : d = blkD c := hd
  subst hd
  refine ⟨c, ?_, weight_blk c hw⟩
  have : cs.toList = (blkC c).toList := hc
  rw [Array.toList_inj.1 this]
theorem open_blocks {H : Type} {enc : TypeId × Value → H} {w : World} {held : Bool} {ao : Option Addr} {len cap : Nat} {d : DataW H} {q : List MemPlace}
    (h : DataW.Trod enc Tryd.prog w 0 (fun _ => true) held 40 (.slice ao len cap) d q) (hw : ∀ n ∈ d.weights Tryd.prog 40, n ≤ reachBytes) : ∃ l : List Blk, len = l.length ∧ BlksAt w ao l ∧ (ao = none → cap = 0) ∧ (∀ c ∈ l, c.body.size ≤ 140737488351232) ∧ l.length ≤ 5864062014634 ∧ l.length ≤ cap ∧ (Rows.uptoBulk d ≤ 1048576 → bulkL l ≤ 1048576) := by
  obtain ⟨fuel, hf⟩ := h
  rcases open_slice Tryd.underlying40 hf with ⟨hcs, _⟩ | ⟨a, len', cap', m, n, D, Pl, hcs, _, hl, hm, hmm, hd, hx⟩
  · simp [Value.cells] at hcs
    obtain ⟨rfl, rfl, rfl⟩ := hcs
    exact ⟨[], rfl, BlksAt.nil _ _, fun _ => rfl, fun c hc => (by cases hc), Nat.zero_le _, Nat.zero_le _, fun _ => Nat.zero_le _⟩
  · simp [Value.cells] at hcs
    obtain ⟨rfl, rfl, rfl⟩ := hcs
    simp only [if_true] at hmm
    subst hmm
    rw [acellsB] at hx
    have hd1 : d = DataW.slice (List.map D (List.range len)) (List.map (fun j => D (len + j)) (List.range (m - len))) := congrArg Prod.fst hd
    have hall : ∀ i, i < len → ∃ q : Int × ByteArray, ∃ c : Blk, c = ⟨q.1, q.2⟩ ∧ w.cell? (a.add (i * 2)) = some (.int .i64 c.ty) ∧ w.cell? (a.add (i * 2 + 1)) = some (.string c.body) ∧ D i = blkD c := by
      intro i hi
      obtain ⟨cs', h1, h2⟩ := hx i (by omega)
      obtain ⟨c, hcs, hD, _, _⟩ := open_blk_cells h2
      obtain ⟨_, hlen, hcell⟩ := World.cells?_some h1
      have g0 := hcell 0 (by omega)
      have g1 := hcell 1 (by omega)
      rw [add_add] at g0 g1
      subst hcs
      exact ⟨(c.ty, c.body), c, rfl, g0, g1, hD⟩
    obtain ⟨f0, hf'⟩ := choose_lt (α := Int × ByteArray) hall
    obtain ⟨f, hfd⟩ : ∃ f : Nat → Blk, f = fun i => ⟨(f0 i).1, (f0 i).2⟩ := ⟨_, rfl⟩
    have hg : ∀ i, i < len → w.cell? (a.add (i * 2)) = some (.int .i64 (f i).ty) ∧ w.cell? (a.add (i * 2 + 1)) = some (.string (f i).body) ∧ D i = blkD (f i) := fun i hi => by
      obtain ⟨c, hc, r⟩ := hf' i hi
      have : c = f i := by rw [hfd]; exact hc
      rw [this] at r
      exact r
    have hlen : ((List.range len).map f).length = len := by simp
    have hget : ∀ i c, ((List.range len).map f)[i]? = some c → i < len ∧ f i = c := fun i c hc => by
      have hi : i < len := by
        have := (List.getElem?_eq_some_iff.1 hc).1
        rwa [hlen] at this
      refine ⟨hi, ?_⟩
      simp [hi] at hc
      exact hc
    have e : List.map D (List.range len) = ((List.range len).map f).map (blkD (H := H)) := by
      rw [List.map_map]
      exact List.map_congr_left fun i hi => (hg i (List.mem_range.1 hi)).2.2
    rw [hd1, e] at hw
    simp only [DataW.weights, Tryd.underlying40, abytesB] at hw
    have hcap := hw _ (List.mem_cons_self)
    simp only [List.length_map, List.length_range, reachBytes] at hcap
    refine ⟨(List.range len).map f, hlen.symm, ⟨fun h0 => ?_⟩, fun e => (by cases e), fun c hc => ?_, by rw [hlen]; omega, by rw [hlen]; omega, ?_⟩
    · rw [hlen] at h0
      have g0 := (hg 0 h0).1
      rw [Nat.zero_mul] at g0
      obtain ⟨b, off, rfl⟩ := at_spot g0
      refine ⟨b, off, rfl, fun i c hc => ?_⟩
      obtain ⟨hi, rfl⟩ := hget i c hc
      obtain ⟨q0, q1, _⟩ := hg i hi
      rw [add_plain] at q0 q1
      rw [Nat.add_assoc]
      exact ⟨q0, q1⟩
    · refine weight_blk (H := H) c fun n hn => ?_
      exact hw n (List.mem_cons_of_mem _ (List.mem_append.2 (.inl (weights_all _ _ _ _ (List.mem_map_of_mem hc) n hn))))
    · intro hb
      rw [hd1, e] at hb
      have := bulk_all (H := H) ((List.range len).map f)
      simp only [Rows.uptoBulk] at hb
      omega
set_option maxRecDepth 40000 in
/-- A StreamInfo as an argument. -/
theorem open_sti {H : Type} {enc : TypeId × Value → H} {w : World} {base : Nat} {held : Bool} {r : Reach} {v : Value} {d : DataW H} {q : List MemPlace} (hv : Value.okWide Tryd.prog w r base 23 v) (h : DataW.Trod enc Tryd.prog w 0 (fun _ => true) held 23 v d q) (hw : ∀ n ∈ d.weights Tryd.prog 23, n ≤ reachBytes) :
    ∃ i : Sti, v = stiV i ∧ IFit i := by
  obtain ⟨cs, rfl, hs⟩ := okWide_struct Tryd.underlying23 hv
  obtain ⟨fuel, hf⟩ := h
  obtain ⟨xs, n, rfl, hx, hl, hxl, hall⟩ := DataW.trod_struct Tryd.underlying23 hf
  rw [acellsT] at hl
  have hd : d = .agg (xs.map (·.1)) := congrArg Prod.fst hx
  obtain ⟨l⟩ := cs
  simp only [Value.cells] at hl hall
  have h0 : DataW.trod enc Tryd.prog w 0 (fun _ => true) held n 3 ((l.drop 0).take (Tryd.prog.cellsOf 3)) = xs[0]? := hall 0 _ rfl
  have h1 : DataW.trod enc Tryd.prog w 0 (fun _ => true) held n 3 ((l.drop 1).take (Tryd.prog.cellsOf 3)) = xs[1]? := hall 1 _ rfl
  have h2 : DataW.trod enc Tryd.prog w 0 (fun _ => true) held n 3 ((l.drop 2).take (Tryd.prog.cellsOf 3)) = xs[2]? := hall 2 _ rfl
  have h3 : DataW.trod enc Tryd.prog w 0 (fun _ => true) held n 3 ((l.drop 3).take (Tryd.prog.cellsOf 3)) = xs[3]? := hall 3 _ rfl
  have h4 : DataW.trod enc Tryd.prog w 0 (fun _ => true) held n 3 ((l.drop 4).take (Tryd.prog.cellsOf 3)) = xs[4]? := hall 4 _ rfl
  have h5 : DataW.trod enc Tryd.prog w 0 (fun _ => true) held n 3 ((l.drop 5).take (Tryd.prog.cellsOf 3)) = xs[5]? := hall 5 _ rfl
  have h6 : DataW.trod enc Tryd.prog w 0 (fun _ => true) held n 3 ((l.drop 6).take (Tryd.prog.cellsOf 3)) = xs[6]? := hall 6 _ rfl
  have h7 : DataW.trod enc Tryd.prog w 0 (fun _ => true) held n 3 ((l.drop 7).take (Tryd.prog.cellsOf 3)) = xs[7]? := hall 7 _ rfl
  have h8 : DataW.trod enc Tryd.prog w 0 (fun _ => true) held n 9 ((l.drop 8).take (Tryd.prog.cellsOf 9)) = xs[8]? := hall 8 _ rfl
  have hxl9 : xs.length = 9 := hxl
  clear hall hf hs hv hx hxl
  match l, hl, xs, hxl9, hd with
  | [c0, c1, c2, c3, c4, c5, c6, c7, c8], _, [x0, x1, x2, x3, x4, x5, x6, x7, x8], _, hd =>
    simp only [acells3, acells9, List.drop_zero, List.drop_succ_cons, List.take_succ_cons, List.take_zero, List.getElem?_cons_zero, List.getElem?_cons_succ] at h0 h1 h2 h3 h4 h5 h6 h7 h8
    obtain ⟨z0, e0, f0, q0⟩ := DataW.trod_int Tryd.underlying3 h0
    obtain ⟨z1, e1, f1, q1⟩ := DataW.trod_int Tryd.underlying3 h1
    obtain ⟨z2, e2, f2, q2⟩ := DataW.trod_int Tryd.underlying3 h2
    obtain ⟨z3, e3, f3, q3⟩ := DataW.trod_int Tryd.underlying3 h3
    obtain ⟨z4, e4, f4, q4⟩ := DataW.trod_int Tryd.underlying3 h4
    obtain ⟨z5, e5, f5, q5⟩ := DataW.trod_int Tryd.underlying3 h5
    obtain ⟨z6, e6, f6, q6⟩ := DataW.trod_int Tryd.underlying3 h6
    obtain ⟨z7, e7, f7, q7⟩ := DataW.trod_int Tryd.underlying3 h7
    obtain ⟨s8, e8, f8, _⟩ := DataW.trod_string Tryd.underlying9 h8
    simp only [List.cons.injEq, and_true] at e0 e1 e2 e3 e4 e5 e6 e7 e8
    subst e0 e1 e2 e3 e4 e5 e6 e7 e8
    refine ⟨⟨z0, z1, z2, z3, z4, z5, z6, z7, s8⟩, rfl, ⟨bounds_i64 q0, bounds_i64 q1, bounds_i64 q2, bounds_i64 q3, bounds_i64 q4, bounds_i64 q5, bounds_i64 q6, bounds_i64 q7, ?_⟩⟩
    have hm : s8.size ∈ d.weights Tryd.prog 23 := by
      rw [hd, f0, f1, f2, f3, f4, f5, f6, f7, f8]
      simp [DataW.weights, Tryd.underlying23, DataW.weightsEach, str_len]
    have := hw _ hm
    simp only [reachBytes] at this
    show s8.size ≤ _
    omega

theorem gWid : Tryd.prog.globalNamed (Rows.metaBackRow.laid.map (·.1))[0] = some 0 := by kernel_rfl
theorem tWid : (Tryd.prog.globals[0]?).map (·.type) = some 89 := by kernel_rfl
theorem lcW : Tryd.prog.cellsOf 89 = 8 := by kernel_rfl
theorem block_of_var {W : World} {s : String} {g : Nat} {cs : Array Value} (hg : Tryd.prog.globalNamed s = some g) (hv : W.var? Tryd.prog s = some cs) : ∃ t fz, W.heap[g]? = some (.cells cs t fz) := by
  simp only [World.var?, hg, Option.bind_some] at hv
  split at hv
  · rename_i c t fz he
    simp only [Option.some.injEq] at hv
    subst hv
    exact ⟨t, fz, he⟩
  · cases hv
/-- What the row's list gives: the table's cells. -/
theorem wid_of_laid {W : World} (h : laidMetH Tryd.prog Rows.metaBackRow.laid W) : WidAt W := by
  rw [MakeChecks.laidMetH_plain _ _ _ (by kernel_rfl)] at h
  obtain ⟨ps, ⟨g0, t0, cs0, f0, p0, q0, hg0, ht0, hv0, hd0, _, _⟩, _, _⟩ := h
  obtain rfl := Option.some.inj (gWid.symm.trans hg0)
  obtain rfl := Option.some.inj (tWid.symm.trans ht0)
  obtain ⟨u1, z1, b1⟩ := block_of_var hg0 hv0
  have hd1' : DataW.trod _ Tryd.prog W 0 _ _ f0 89 cs0.toList = some (Go.Lib.tabData .i64 [16, 16, 24, 24, 20, 3, 5, 36], p0) := hd0
  have k1 := Go.Lib.cells_of_tab Tryd.underlying89 Tryd.underlying3 acells3 lcW hd1'
  refine ⟨u1, z1, ?_⟩
  rw [b1]
  congr 2
  exact Array.toList_inj.1 k1
theorem wid_of_laidI {W : World} (h : laidMetH Tryd.prog Rows.metaInfosRow.laid W) : WidAt W := wid_of_laid h
theorem wid_of_laidC {W : World} (h : laidMetH Tryd.prog Rows.metaChecksRow.laid W) : WidAt W := wid_of_laid h
theorem wid_of_laidP {W : World} (h : laidMetH Tryd.prog Rows.metaParsesRow.laid W) : WidAt W := wid_of_laid h
theorem wid_of_laidB {W : World} (h : laidMetH Tryd.prog Rows.metaBuildsRow.laid W) : WidAt W := wid_of_laid h


end Go.Proofs.YtfmpiidnemhijaaDoor
