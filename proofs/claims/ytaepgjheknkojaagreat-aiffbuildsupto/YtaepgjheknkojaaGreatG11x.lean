/- Own text: the walks of the document's SameChunks and Same. the walks of the document's Same and find (aiff). the walk of the document's Plain (aiff). the walks of the program's Len, mayBe, half, isSample, isAlike. samples as bytes, plain laws. -/
import Derived.Test.YtaepgjheknkojaaGreatR6chunks
import Derived.Laws.StructEq
import Derived.Test.YtaepgjheknkojaaGreatG4x
import Derived.Test.YtaepgjheknkojaaGreatG5x
import Derived.Test.YtaepgjheknkojaaGreatG6x
import Derived.Shelf.Abstract
import Derived.Test.YtaepgjheknkojaaGreatPlain
namespace Go.Proofs.YtaepgjheknkojaaGreat
open Go.RowKit
set_option linter.unusedSimpArgs false
set_option linter.unusedVariables false

def chkB (a b : Chk) : Bool := a.id.toList == b.id.toList && (a.body.toList == b.body.toList && a.pad == b.pad)
theorem und_chunk : Tryz.prog.underlying 55 = some (.struct (Tryz.prog.fieldsOf 55)) := by kernel_rfl
theorem eq_chk (c d : Chk) (w : World) : (Op.equalIn 10000 55 (.agg #[.string c.id, .string c.body, .int .i64 c.pad]) (.agg #[.string d.id, .string d.body, .int .i64 d.pad])).run Tryz.prog w = .ok (chkB c d) w := by
  unfold chkB
  rw [run_equalIn_struct w 9999 55 _ _ und_chunk (by kernel_rfl)]
  cases h1 : c.id.toList == d.id.toList <;> cases h2 : c.body.toList == d.body.toList <;> cases h3 : c.pad == d.pad <;> go_simp
def sameC : List Chk → List Chk → Bool
  | [], [] => true
  | a :: s, b :: t => chkB a b && sameC s t
  | _, _ => false
theorem neq_chk (c d : Chk) (w : World) : (binOp .neq 55 (.agg #[.string c.id, .string c.body, .int .i64 c.pad]) (.agg #[.string d.id, .string d.body, .int .i64 d.pad])).run Tryz.prog w = .ok (.bool (!chkB c d)) w := by
  rw [run_neq_struct, eq_chk]
  rfl
theorem ChksAt.at {w0 : World} {ao : Option Addr} {l : List Chk} (h : ChksAt w0 ao l) (i : Nat) (c : Chk) (hi : l[i]? = some c) :
    ∃ b off, ao = some ⟨b, off, none⟩ ∧ ∀ w, Below w0.heap.size w0 w → w.cell? ⟨b, off + i * 3, none⟩ = some (.string c.id) ∧ w.cell? ⟨b, off + i * 3 + 1, none⟩ = some (.string c.body) ∧ w.cell? ⟨b, off + i * 3 + 2, none⟩ = some (.int .i64 c.pad) := by
  obtain ⟨b, off, e, hc⟩ := h.lies (by have := (List.getElem?_eq_some_iff.1 hi).1; omega)
  refine ⟨b, off, e, fun w hB => ?_⟩
  obtain ⟨h0, h1, h2⟩ := hc i c hi
  have k : ∀ o, w.cell? ⟨b, o, .none⟩ = w0.cell? ⟨b, o, .none⟩ := fun o => World.cell?_of_block (w := w0) (hB.block b (lt_cell h0))
  exact ⟨by rw [k]; exact h0, by rw [k]; exact h1, by rw [k]; exact h2⟩

theorem sameC_step (l m : List Chk) (k : Nat) (c d : Chk) (hc : l[k]? = some c) (hd : m[k]? = some d) : sameC (l.drop k) (m.drop k) = (chkB c d && sameC (l.drop (k + 1)) (m.drop (k + 1))) := by
  obtain ⟨h1, e1⟩ := List.getElem?_eq_some_iff.1 hc
  obtain ⟨h2, e2⟩ := List.getElem?_eq_some_iff.1 hd
  rw [List.drop_eq_getElem_cons h1, List.drop_eq_getElem_cons h2, e1, e2]
  rfl
theorem sameC_len : ∀ (l m : List Chk), ¬ l.length = m.length → sameC l m = false
  | [], [], h => absurd rfl h
  | [], _ :: _, _ => rfl
  | _ :: _, [], _ => rfl
  | a :: s, b :: t, h => by
    show (chkB a b && sameC s t) = false
    rw [sameC_len s t (fun q => h (by simp [q])), Bool.and_false]

set_option maxRecDepth 20000 in
set_option maxHeartbeats 3200000 in
theorem r6sameChunks_spec (l m : List Chk) (ao bo : Option Addr) (ac bc : Nat) (w : World) (hl : ChksAt w ao l) (hm : ChksAt w bo m) (hll : l.length ≤ 9000000000000000) :
    Calls Tryz.prog 23 #[.slice ao l.length ac, .slice bo m.length bc] w fun e w' => e = .returned (.bool (sameC l m)) ∧ ∃ n, w' = w.drewN n := by
  have HL : Hid (ChksAt w ao l) := hl
  have HM : Hid (ChksAt w bo m) := hm
  clear hl hm
  by_cases hlen : l.length = m.length
  · have HLEN : Hid (l.length = m.length) := hlen
    have hb : ((l.length : Int) != (m.length : Int)) = false := by simp [hlen]
    clear hlen
    go_enter Tryz.func23, Tryz.ntmps23
    go_wp2_with fail
    go_loopw [5] (fun t wr => ∃ k : Nat, k ≤ l.length ∧ t = .int .i64 (k : Int) ∧ sameC l m = sameC (l.drop k) (m.drop k) ∧ ∃ n, wr = w.drewN n) (fun t _ => l.length - (intOf t).toNat)
    case atStart => exact ⟨0, Nat.zero_le _, rfl, rfl, 0, rfl⟩
    case round =>
      obtain ⟨k, hk, rfl, hsm, n, hwn⟩ := hrel
      have HWN : Hid (wr = w.drewN n) := hwn
      have HSM : Hid (sameC l m = sameC (l.drop k) (m.drop k)) := hsm
      have hBn : Below w.heap.size w wr := by rw [hwn]; exact ⟨rfl, rfl, rfl, Nat.le_refl _, fun _ _ => rfl⟩
      clear hwn hsm
      by_cases hlt : k < l.length
      · have hml : k < m.length := by have := HLEN.out; omega
        obtain ⟨c, hc⟩ : ∃ c, l[k]? = some c := ⟨_, List.getElem?_eq_getElem hlt⟩
        obtain ⟨d, hd⟩ : ∃ d, m[k]? = some d := ⟨_, List.getElem?_eq_getElem hml⟩
        obtain ⟨b, off, rfl, hcl⟩ := HL.out.at k c hc
        obtain ⟨b2, off2, rfl, hdl⟩ := HM.out.at k d hd
        obtain ⟨x0, x1, x2⟩ := hcl wr hBn
        obtain ⟨y0, y1, y2⟩ := hdl wr hBn
        have HST : Hid (sameC l m = (chkB c d && sameC (l.drop (k + 1)) (m.drop (k + 1)))) := HSM.out.trans (sameC_step l m k c d hc hd)
        have heq := eq_chk c d
        have hneq := neq_chk c d
        clear hcl hdl hBn hc hd HSM
        cases hcb : chkB c d
        · have HE : Hid (sameC l m = false) := HST.out.trans (by rw [hcb]; rfl)
          rw [hcb] at heq hneq
          clear hcb HST
          go_wp2_with fail
          go_quiet (fail)
          go_wp2_with fail
          go_ret
          exact ⟨by rw [HE.out]; rfl, by rw [HWN.out, World.drewN_drewN]; exact ⟨_, rfl⟩⟩
        · have HE : Hid (sameC l m = sameC (l.drop (k + 1)) (m.drop (k + 1))) := HST.out.trans (by rw [hcb]; rfl)
          rw [hcb] at heq hneq
          clear hcb HST
          go_wp2_with fail
          go_quiet (fail)
          go_wp2_with fail
          go_roundw
          case rel => exact ⟨k + 1, by omega, by go_num, HE.out, by rw [HWN.out, World.drewN_drewN]; exact ⟨_, rfl⟩⟩
          case measure => simp [intOf]; omega
      · have HE : Hid (sameC l m = true) := HSM.out.trans (by
          rw [List.drop_eq_nil_of_le (by omega), List.drop_eq_nil_of_le (by have := HLEN.out; omega)]
          rfl)
        clear HSM hBn
        go_wp2_with fail
        go_ret
        exact ⟨by rw [HE.out]; rfl, n, HWN.out⟩
  · have HE : Hid (sameC l m = false) := sameC_len l m hlen
    have hb : ((l.length : Int) != (m.length : Int)) = true := by simp; omega
    go_enter Tryz.func23, Tryz.ntmps23
    go_wp2_with fail
    go_ret
    exact ⟨by rw [HE.out]; rfl, 0, rfl⟩

/-- A skeleton: its form, its chunks. -/
abbrev waveC (f : ByteArray) (l : List Chk) (ao : Option Addr) (cap : Nat) : Array Value := #[.string f, .slice ao l.length cap]
def sameW (f : ByteArray) (l : List Chk) (g : ByteArray) (m : List Chk) : Bool := f.toList == g.toList && sameC l m
end Go.Proofs.YtaepgjheknkojaaGreat

namespace Go.Proofs.YtaepgjheknkojaaGreat
open Go.RowKit
set_option linter.unusedSimpArgs false
set_option linter.unusedVariables false

set_option maxRecDepth 20000 in
set_option maxHeartbeats 3200000 in
theorem r7same_spec (f g : ByteArray) (l m : List Chk) (ao bo : Option Addr) (ac bc : Nat) (w : World) (hl : ChksAt w ao l) (hm : ChksAt w bo m) (hll : l.length ≤ 9000000000000000) :
    Calls Tryz.prog 9 #[.agg (waveC f l ao ac), .agg (waveC g m bo bc)] w fun e w' => e = .returned (.bool (sameW f l g m)) ∧ Below w.heap.size w w' := by
  have HB : Hid (Below w.heap.size w ((w.alloc (.cells (waveC f l ao ac) 27)).alloc (.cells (waveC g m bo bc) 27))) := ((Below.refl _ _).alloc (Nat.le_refl _) _).alloc (by simp) _
  have ks := r6sameChunks_spec l m ao bo ac bc ((w.alloc (.cells (waveC f l ao ac) 27)).alloc (.cells (waveC g m bo bc) 27)) (hl.below HB.out) (hm.below HB.out) hll
  have HW : Hid (sameW f l g m = (f.toList == g.toList && sameC l m)) := rfl
  clear hl hm
  cases hfg : f.toList == g.toList
  · rw [hfg] at HW
    go_enter Tryz.func9, Tryz.ntmps9
    go_wp2_with fail
    go_ret
    exact ⟨by rw [HW.out]; rfl, HB.out⟩
  · rw [hfg] at HW
    generalize sameC l m = sb at *
    go_enter Tryz.func9, Tryz.ntmps9
    go_wp2_with fail
    refine ks.mono ?_
    rintro e w2 ⟨rfl, n, hw2⟩
    have HB2 : Hid (Below w.heap.size w w2) := by rw [hw2]; exact ⟨HB.out.os, HB.out.tape, HB.out.output, HB.out.size, HB.out.block⟩
    clear hw2 ks
    go_wp2_with fail
    go_ret
    exact ⟨by rw [HW.out]; rfl, HB2.out⟩

/-- The last place of a chunk with that name, from place i on, and how many there are. -/
def findR (id : ByteArray) : List Chk → Nat → Int × Int → Int × Int
  | [], _, r => r
  | c :: t, i, r => findR id t (i + 1) (if c.id.toList == id.toList then ((i : Int), r.2 + 1) else r)
def findN (l : List Chk) (id : ByteArray) : Int × Int := findR id l 0 (-1, 0)
theorem findR_step (id : ByteArray) (l : List Chk) (k : Nat) (c : Chk) (r : Int × Int) (h : l[k]? = some c) : findR id (l.drop k) k r = findR id (l.drop (k + 1)) (k + 1) (if c.id.toList == id.toList then ((k : Int), r.2 + 1) else r) := by
  obtain ⟨hi, e⟩ := List.getElem?_eq_some_iff.1 h
  rw [List.drop_eq_getElem_cons hi, e]
  rfl
set_option maxRecDepth 20000 in
set_option maxHeartbeats 1600000 in
theorem r7find_spec (l : List Chk) (id : ByteArray) (ao : Option Addr) (cap : Nat) (w : World) (hl : ChksAt w ao l) (hll : l.length ≤ 9000000000000000) :
    Calls Tryz.prog 19 #[.slice ao l.length cap, .string id] w fun e w' => e = .returned (.tuple #[.int .i64 (findN l id).1, .int .i64 (findN l id).2]) ∧ w' = w := by
  have HL : Hid (ChksAt w ao l) := hl
  obtain ⟨R, hR⟩ : ∃ R, findN l id = R := ⟨_, rfl⟩
  have HR : Hid (R = findR id (l.drop 0) 0 (-1, 0)) := hR.symm
  rw [hR]
  clear hl hR
  go_enter Tryz.func19, Tryz.ntmps19
  go_wp2_with fail
  go_loopw [6, 7, 8] (fun a n t wr => ∃ (k : Nat) (x y : Int), k ≤ l.length ∧ 0 ≤ y ∧ y ≤ k ∧ a = .int .i64 x ∧ n = .int .i64 y ∧ t = .int .i64 (k : Int) ∧ R = findR id (l.drop k) k (x, y) ∧ wr = w) (fun _ _ t _ => l.length - (intOf t).toNat)
  case atStart => exact ⟨0, -1, 0, Nat.zero_le _, by decide, by decide, rfl, rfl, rfl, HR.out, rfl⟩
  case round =>
    clear HR
    obtain ⟨k, x, y, hk, hy0, hy1, rfl, rfl, rfl, hR, rfl⟩ := hrel
    have HR : Hid (R = findR id (l.drop k) k (x, y)) := hR
    clear hR
    by_cases hlt : k < l.length
    · obtain ⟨c, hc⟩ : ∃ c, l[k]? = some c := ⟨_, List.getElem?_eq_getElem hlt⟩
      obtain ⟨b, off, rfl, hcl⟩ := HL.out.at k c hc
      obtain ⟨x0, x1, x2⟩ := hcl wr (Below.refl _ _)
      have HST : Hid (R = findR id (l.drop (k + 1)) (k + 1) (if c.id.toList == id.toList then ((k : Int), y + 1) else (x, y))) := HR.out.trans (findR_step id l k c (x, y) hc)
      clear hcl hc HR
      cases hcb : c.id.toList == id.toList
      · rw [hcb] at HST
        go_wp2_with fail
        go_roundw
        case rel => exact ⟨k + 1, x, y, by omega, hy0, by omega, rfl, rfl, by go_num, HST.out, trivial⟩
        case measure => simp [intOf]; omega
      · rw [hcb] at HST
        go_wp2_with fail
        go_roundw
        case rel => exact ⟨k + 1, k, y + 1, by omega, by omega, by omega, rfl, by go_num, by go_num, HST.out, trivial⟩
        case measure => simp [intOf]; omega
    · have HE : Hid (R = (x, y)) := HR.out.trans (by rw [List.drop_eq_nil_of_le (by omega)]; rfl)
      clear HR
      go_wp2_with fail
      go_ret2
      exact ⟨by rw [HE.out]; rfl, rfl⟩

end Go.Proofs.YtaepgjheknkojaaGreat

namespace Go.Proofs.YtaepgjheknkojaaGreat
open Go.RowKit
set_option linter.unusedSimpArgs false
set_option linter.unusedVariables false

abbrev zeroW : Array Value := #[.string ⟨#[]⟩, .slice none 0 0]
theorem ratT_size (n : Int) : (ratT n).size ≤ 10 := by
  unfold ratT
  split
  · show (textOf (rateL n.toNat)).size ≤ 10
    have : (textOf (rateL n.toNat)).size = (rateL n.toNat).length := by
      show ((rateL n.toNat).map fun b => UInt8.ofNat b).toArray.size = _
      simp
    rw [this, rateL_length]
    exact Nat.le_refl _
  · exact Nat.zero_le _

structure Ja7 (w0 : World) (dp dw : Array Value) (w : World) : Prop where
  rp : w.heap[w0.heap.size]? = some (.cells dp 24 (0, 0))
  rw' : w.heap[w0.heap.size + 1]? = some (.cells dw 27 (0, 0))
  below : Below w0.heap.size w0 w
section
variable {w0 w w1 : World} {dp dw : Array Value}
theorem Ja7.new (w : World) : Ja7 w zeroP zeroW ((w.alloc (.cells zeroP 24)).alloc (.cells zeroW 27)) := by
  refine ⟨?_, ?_, ((Below.refl _ _).alloc (Nat.le_refl _) _).alloc (by simp) _⟩
  · exact (((Below.refl _ _).alloc (Nat.le_refl _) _).block _ (by simp)).trans (heap_alloc_new w _)
  · rw [← show (w.alloc (.cells zeroP 24)).heap.size = w.heap.size + 1 from by simp]
    exact heap_alloc_new _ _
theorem Ja7.next (h : Ja7 w0 dp dw w) (hB : Below w.heap.size w w1) : Ja7 w0 dp dw w1 :=
  ⟨by rw [hB.block _ (lt_of_block h.rp)]; exact h.rp, by rw [hB.block _ (lt_of_block h.rw')]; exact h.rw', h.below.trans (hB.mono h.below.size)⟩
theorem Ja7.setP (h : Ja7 w0 dp dw w) (j : Nat) (v : Value) : Ja7 w0 (dp.setIfInBounds j v) dw (w.setCell ⟨w0.heap.size, j, none⟩ v) :=
  ⟨block_set _ _ _ _ _ _ h.rp, by rw [Below.heap_setCell _ _ _ _ (by show w0.heap.size + 1 ≠ w0.heap.size; omega)]; exact h.rw', h.below.setCell (Nat.le_refl _) _⟩
theorem Ja7.setW (h : Ja7 w0 dp dw w) (j : Nat) (v : Value) : Ja7 w0 dp (dw.setIfInBounds j v) (w.setCell ⟨w0.heap.size + 1, j, none⟩ v) :=
  ⟨by rw [Below.heap_setCell _ _ _ _ (by show w0.heap.size ≠ w0.heap.size + 1; omega)]; exact h.rp, block_set _ _ _ _ _ _ h.rw', h.below.setCell (Nat.le_succ _) _⟩
theorem Ja7.p (h : Ja7 w0 dp dw w) (j : Nat) (v : Value) (hv : dp[j]? = some v) : w.cell? ⟨w0.heap.size, j, none⟩ = some v := by rw [cell_of_row _ _ _ _ _ _ h.rp]; exact hv
theorem Ja7.sk (h : Ja7 w0 dp dw w) (j : Nat) (v : Value) (hv : dw[j]? = some v) : w.cell? ⟨w0.heap.size + 1, j, none⟩ = some v := by rw [cell_of_row _ _ _ _ _ _ h.rw']; exact hv
theorem Ja7.pz (h : Ja7 w0 dp dw w) (j : Nat) : w.frozen? ⟨w0.heap.size, j, none⟩ = false := by
  have := h.rp
  simp [World.frozen?, this]
theorem Ja7.wz (h : Ja7 w0 dp dw w) (j : Nat) : w.frozen? ⟨w0.heap.size + 1, j, none⟩ = false := by
  have := h.rw'
  simp [World.frozen?, this]
end
theorem set_same7 {w : World} {p i : Nat} {cs : Array Value} {t : TypeId} {v : Value} (h : w.heap[p]? = some (.cells cs t (0, 0))) (hv : cs[i]? = some v) : w.setCell ⟨p, i, none⟩ v = w := by
  have e : cs.setIfInBounds i v = cs := by
    apply Array.ext_getElem?
    intro k
    rw [Array.getElem?_setIfInBounds]
    by_cases hk : i = k
    · subst hk
      have hl : i < cs.size := (Array.getElem?_eq_some_iff.1 hv).1
      rw [if_pos rfl, if_pos hl, hv]
    · rw [if_neg hk]
  have e2 : (w.setCell ⟨p, i, none⟩ v).heap = w.heap := by
    apply Array.ext_getElem?
    intro k
    by_cases hk : k = p
    · subst hk
      rw [block_set _ _ _ _ _ _ h, e, h]
    · exact Below.heap_setCell _ _ _ _ hk
  have e3 : w.setCell ⟨p, i, none⟩ v = { w with heap := (w.setCell ⟨p, i, none⟩ v).heap } := rfl
  rw [e3, e2]

theorem Ja7.new2 (w : World) (dp dw : Array Value) : Ja7 w dp dw ((w.alloc (.cells dp 24)).alloc (.cells dw 27)) := by
  refine ⟨?_, ?_, ((Below.refl _ _).alloc (Nat.le_refl _) _).alloc (by simp) _⟩
  · exact (((Below.refl _ _).alloc (Nat.le_refl _) _).block _ (by simp)).trans (heap_alloc_new w _)
  · rw [← show (w.alloc (.cells dp 24)).heap.size = w.heap.size + 1 from by simp]
    exact heap_alloc_new _ _
theorem infoA : (Tryz.prog.info? 27).map (·.size) = some 2 := by kernel_rfl
theorem res_one7 {fn : Func} {p : Tmp} {ty : TypeId} (h : fn.results = #[.cell p ty]) (tmps : Array Value) (P : Program) (w : World) :
    (results fn tmps).run P w = ((asAddr (tmps.getD p undef)).run P w).andThen fun a w₁ => (loadVar ty a).run P w₁ := by
  simp only [results, h]
  simp [Sem.run_bind, Result.andThen]
/-- What a plain COMM has. -/
def comT (p : Pcm) : ByteArray := beT p.ch 2 ++ beT (lenP p : Int) 4 ++ beT p.wd 2 ++ ratT p.rate
def aiffT : ByteArray := ⟨#[65, 73, 70, 70]⟩
def pl7L (p : Pcm) : List Chk := if fitsN 2 p = 0 then [⟨⟨#[67, 79, 77, 77]⟩, comT p, 0⟩, ⟨⟨#[83, 83, 78, 68]⟩, ⟨#[0, 0, 0, 0, 0, 0, 0, 0]⟩, 0⟩] else []
def pl7F (p : Pcm) : ByteArray := if fitsN 2 p = 0 then aiffT else ⟨#[]⟩
theorem aiff_ret {wf : World} {b : Nat} {d : Array Value} (h : wf.heap[b]? = some (.cells d 27 (0, 0))) (hd : d.size = 2) (a' : Act) (h2 : a'.tmps.getD 2 undef = .pointer (some ⟨b, 0, none⟩)) :
    (results Tryz.f14 a'.tmps).run Tryz.prog wf = .ok (.agg d) wf := by
  rw [res_one7 rfl]
  have hld := run_loadVar_row (P := Tryz.prog) wf b 27 27 d (0, 0) _ h Tryz.underlying27 rfl (by rw [hd]; exact infoA)
  simp [h2, asAddr, Result.andThen, hld]
set_option maxRecDepth 20000 in
set_option maxHeartbeats 1600000 in
theorem r7plain_spec (p : Pcm) (po : Option Addr) (pc : Nat) (w : World) (hr : RowsAt w po p.pl) (hfp : Fair p) (hlp : (lenP p : Int) ≤ 9223372036854775807) :
    Calls Tryz.prog 14 #[pcmV p po pc] w fun e w' => ∃ wo wc, e = .returned (.agg (waveC (pl7F p) (pl7L p) wo wc)) ∧ ChksAt w' wo (pl7L p) ∧ Below w.heap.size w w' := by
  have HJ0 : Hid (Ja7 w (pcmC p po pc) zeroW ((w.alloc (.cells (pcmC p po pc) 24)).alloc (.cells zeroW 27))) := Ja7.new2 w _ _
  have kf := rfits_spec 2 p po pc ((w.alloc (.cells (pcmC p po pc) 24)).alloc (.cells zeroW 27)) (hr.below HJ0.out.below)
  have HRW : Hid (RowsAt w po p.pl) := hr
  have K1 : Hid (∀ wx, Calls Tryz.prog 37 #[.int .i64 p.ch, .int .i64 2] wx fun e w' => e = .returned (.tuple #[.string (beT p.ch 2), .int .i64 (wE p.ch 2)]) ∧ Below wx.heap.size wx w') := fun wx => refbe_spec p.ch 2 hfp.c1 hfp.c2 wx
  have K2 : Hid (∀ wx, Calls Tryz.prog 37 #[.int .i64 (lenP p : Int), .int .i64 4] wx fun e w' => e = .returned (.tuple #[.string (beT (lenP p : Int) 4), .int .i64 (wE (lenP p : Int) 4)]) ∧ Below wx.heap.size wx w') := fun wx => refbe_spec (lenP p : Int) 4 (by omega) hlp wx
  have K3 : Hid (∀ wx, Calls Tryz.prog 37 #[.int .i64 p.wd, .int .i64 2] wx fun e w' => e = .returned (.tuple #[.string (beT p.wd 2), .int .i64 (wE p.wd 2)]) ∧ Below wx.heap.size wx w') := fun wx => refbe_spec p.wd 2 hfp.w1 hfp.w2 wx
  have K4 : Hid (∀ wx, Calls Tryz.prog 41 #[.int .i64 p.rate] wx fun e w' => e = .returned (.tuple #[.string (ratT p.rate), .int .i64 (ratE p.rate)]) ∧ Below wx.heap.size wx w') := fun wx => refrate_spec p.rate wx
  have hsz : ¬ (9223372036854775807 < (beT p.ch 2).size + (beT (lenP p : Int) 4).size + (beT p.wd 2).size + (ratT p.rate).size) := by
    have h1 := beT_size p.ch 2
    have h2 := beT_size (lenP p : Int) 4
    have h3 := beT_size p.wd 2
    have h4 := ratT_size p.rate
    omega
  clear hr hfp hlp
  go_enter Tryz.func14, Tryz.ntmps14
  go_wp2_with fail
  refine kf.mono ?_
  rintro e w2 ⟨rfl, hB2⟩
  have HJ2 : Hid (Ja7 w (pcmC p po pc) zeroW w2) := HJ0.out.next hB2
  clear kf hB2 HJ0
  cases hE : fitsN 2 p != 0
  · have hE0 : fitsN 2 p = 0 := by simpa using hE
    have HPF : Hid (pl7F p = ⟨#[65, 73, 70, 70]⟩) := if_pos hE0
    have HPL : Hid (pl7L p = [⟨⟨#[67, 79, 77, 77]⟩, comT p, 0⟩, ⟨⟨#[83, 83, 78, 68]⟩, ⟨#[0, 0, 0, 0, 0, 0, 0, 0]⟩, 0⟩]) := if_pos hE0
    have HPT : Hid (comT p = beT p.ch 2 ++ beT (lenP p : Int) 4 ++ beT p.wd 2 ++ ratT p.rate) := rfl
    rw [hE0]
    clear hE hE0
    have p1 := HJ2.out.p 1 _ rfl
    generalize beT p.ch 2 = B1 at *
    generalize beT (lenP p : Int) 4 = B2 at *
    generalize beT p.wd 2 = B3 at *
    generalize ratT p.rate = B4 at *
    go_wp2_with fail
    refine (K1.out _).mono ?_
    rintro e w3 ⟨rfl, hB3⟩
    have HJ3 : Hid (Ja7 w (pcmC p po pc) zeroW w3) := HJ2.out.next hB3
    clear K1 hB3 HJ2 p1
    have p0 := HJ3.out.p 0 _ rfl
    have p1 := HJ3.out.p 1 _ rfl
    have p2 := HJ3.out.p 2 _ rfl
    have p3 := HJ3.out.p 3 _ rfl
    have kl := rlen_spec p po pc w3 (HRW.out.below HJ3.out.below)
    go_wp2_with fail
    refine kl.mono ?_
    rintro e w4 ⟨rfl, hB4⟩
    have HJ4 : Hid (Ja7 w (pcmC p po pc) zeroW w4) := HJ3.out.next hB4
    clear kl hB4 HJ3 p0 p1 p2 p3
    go_wp2_with fail
    refine (K2.out _).mono ?_
    rintro e w5 ⟨rfl, hB5⟩
    have HJ5 : Hid (Ja7 w (pcmC p po pc) zeroW w5) := HJ4.out.next hB5
    clear K2 hB5 HJ4
    have p2 := HJ5.out.p 2 _ rfl
    go_wp2_with fail
    refine (K3.out _).mono ?_
    rintro e w6 ⟨rfl, hB6⟩
    have HJ6 : Hid (Ja7 w (pcmC p po pc) zeroW w6) := HJ5.out.next hB6
    clear K3 hB6 HJ5 p2
    have p0 := HJ6.out.p 0 _ rfl
    go_wp2_with fail
    refine (K4.out _).mono ?_
    rintro e w7 ⟨rfl, hB7⟩
    have HJ7 : Hid (Ja7 w (pcmC p po pc) zeroW w7) := HJ6.out.next hB7
    clear K4 hB7 HJ6 p0
    obtain ⟨PT, hPT⟩ : ∃ PT, B1 ++ B2 ++ B3 ++ B4 = PT := ⟨_, rfl⟩
    rw [hPT] at HPT
    have HJ8 : Hid (Ja7 w (pcmC p po pc) zeroW (w7.alloc (.cells #[.string ⟨#[67, 79, 77, 77]⟩, .string PT, .int .i64 0, .string ⟨#[83, 83, 78, 68]⟩, .string ⟨#[0, 0, 0, 0, 0, 0, 0, 0]⟩, .int .i64 0] 55)) ∧ (w7.alloc (.cells #[.string ⟨#[67, 79, 77, 77]⟩, .string PT, .int .i64 0, .string ⟨#[83, 83, 78, 68]⟩, .string ⟨#[0, 0, 0, 0, 0, 0, 0, 0]⟩, .int .i64 0] 55)).heap[w7.heap.size]? = some (.cells #[.string ⟨#[67, 79, 77, 77]⟩, .string PT, .int .i64 0, .string ⟨#[83, 83, 78, 68]⟩, .string ⟨#[0, 0, 0, 0, 0, 0, 0, 0]⟩, .int .i64 0] 55 (0, 0))) := ⟨HJ7.out.next ((Below.refl _ _).alloc (Nat.le_refl _) _), heap_alloc_new _ _⟩
    have x0 := HJ7.out.sk 0 _ rfl
    have x1 := HJ7.out.sk 1 _ rfl
    have xz0 := HJ7.out.wz 0
    have xz1 := HJ7.out.wz 1
    have y0 := HJ8.out.1.sk 0 _ rfl
    have y1 := HJ8.out.1.sk 1 _ rfl
    have yz0 := HJ8.out.1.wz 0
    have yz1 := HJ8.out.1.wz 1
    have lw := lt_of_block HJ7.out.rw'
    have HPL2 : Hid (pl7L p = [⟨⟨#[67, 79, 77, 77]⟩, PT, 0⟩, ⟨⟨#[83, 83, 78, 68]⟩, ⟨#[0, 0, 0, 0, 0, 0, 0, 0]⟩, 0⟩]) := by
      show _ = _
      rw [HPL.out, HPT.out]
    have HJ9 : Hid (Ja7 w (pcmC p po pc) #[.string ⟨#[65, 73, 70, 70]⟩, .slice (some ⟨w7.heap.size, 0, none⟩) 2 2] ((w7.setCell ⟨w.heap.size + 1, 0, none⟩ (.string ⟨#[65, 73, 70, 70]⟩)).setCell ⟨w.heap.size + 1, 1, none⟩ (.slice (some ⟨w7.heap.size, 0, none⟩) 2 2))) := (HJ7.out.setW 0 (.string ⟨#[65, 73, 70, 70]⟩)).setW 1 (.slice (some ⟨w7.heap.size, 0, none⟩) 2 2)
    have hsz9 : ((w7.setCell ⟨w.heap.size + 1, 0, none⟩ (.string ⟨#[65, 73, 70, 70]⟩)).setCell ⟨w.heap.size + 1, 1, none⟩ (.slice (some ⟨w7.heap.size, 0, none⟩) 2 2)).heap.size = w7.heap.size := by simp [World.setCell]
    have HSZ9 : Hid (((w7.setCell ⟨w.heap.size + 1, 0, none⟩ (.string ⟨#[65, 73, 70, 70]⟩)).setCell ⟨w.heap.size + 1, 1, none⟩ (.slice (some ⟨w7.heap.size, 0, none⟩) 2 2)).heap.size = w7.heap.size) := hsz9
    clear hsz9 HJ8 HPL HPT
    go_wp2_with fail
    generalize hW : (w7.setCell ⟨w.heap.size + 1, 0, none⟩ (.string ⟨#[65, 73, 70, 70]⟩)).setCell ⟨w.heap.size + 1, 1, none⟩ (.slice (some ⟨w7.heap.size, 0, none⟩) 2 2) = W at *
    have HJA : Ja7 w (pcmC p po pc) #[.string ⟨#[65, 73, 70, 70]⟩, .slice (some ⟨w7.heap.size, 0, none⟩) 2 2] (W.alloc (.cells #[.string ⟨#[67, 79, 77, 77]⟩, .string PT, .int .i64 0, .string ⟨#[83, 83, 78, 68]⟩, .string ⟨#[0, 0, 0, 0, 0, 0, 0, 0]⟩, .int .i64 0] 55)) := HJ9.out.next ((Below.refl _ _).alloc (Nat.le_refl _) _)
    have HC : (W.alloc (.cells #[.string ⟨#[67, 79, 77, 77]⟩, .string PT, .int .i64 0, .string ⟨#[83, 83, 78, 68]⟩, .string ⟨#[0, 0, 0, 0, 0, 0, 0, 0]⟩, .int .i64 0] 55)).heap[w7.heap.size]? = some (.cells #[.string ⟨#[67, 79, 77, 77]⟩, .string PT, .int .i64 0, .string ⟨#[83, 83, 78, 68]⟩, .string ⟨#[0, 0, 0, 0, 0, 0, 0, 0]⟩, .int .i64 0] 55 (0, 0)) := by
      rw [← HSZ9.out]
      exact heap_alloc_new _ _
    refine bodyPost_ret (v := .agg #[.string ⟨#[65, 73, 70, 70]⟩, .slice (some ⟨w7.heap.size, 0, none⟩) 2 2]) (aiff_ret HJA.rw' rfl _ rfl) rfl ⟨some ⟨w7.heap.size, 0, none⟩, 2, by rw [HPF.out, HPL2.out]; rfl, ?_, HJA.below⟩
    rw [HPL2.out]
    refine ⟨fun _ => ⟨w7.heap.size, 0, rfl, fun i c hi => ?_⟩⟩
    rw [Nat.zero_add]
    match i, hi with
    | 0, hi =>
      cases hi
      exact ⟨by rw [cell_of_row _ _ _ _ _ _ HC]; rfl, by rw [cell_of_row _ _ _ _ _ _ HC]; rfl, by rw [cell_of_row _ _ _ _ _ _ HC]; rfl⟩
    | 1, hi =>
      cases hi
      exact ⟨by rw [cell_of_row _ _ _ _ _ _ HC]; rfl, by rw [cell_of_row _ _ _ _ _ _ HC]; rfl, by rw [cell_of_row _ _ _ _ _ _ HC]; rfl⟩
    | n + 2, hi => simp at hi
  · have HPF : Hid (pl7F p = ⟨#[]⟩) := if_neg (by simpa using hE)
    have HPL : Hid (pl7L p = []) := if_neg (by simpa using hE)
    generalize fitsN 2 p = E at *
    have x0 := HJ2.out.sk 0 _ rfl
    have x1 := HJ2.out.sk 1 _ rfl
    have xz0 := HJ2.out.wz 0
    have xz1 := HJ2.out.wz 1
    have HS : Hid ((w2.setCell ⟨w.heap.size + 1, 0, none⟩ (.string ⟨#[]⟩)).setCell ⟨w.heap.size + 1, 1, none⟩ (.slice none 0 0) = w2) := by
      show _ = _
      rw [set_same7 HJ2.out.rw' rfl, set_same7 HJ2.out.rw' rfl]
    go_wp2_with fail
    rw [HS.out]
    exact bodyPost_ret (v := .agg zeroW) (aiff_ret HJ2.out.rw' rfl _ rfl) rfl ⟨none, 0, by rw [HPF.out, HPL.out]; rfl, by rw [HPL.out]; exact ChksAt.nil _ _, HJ2.out.below⟩

end Go.Proofs.YtaepgjheknkojaaGreat

namespace Go.Proofs.YtaepgjheknkojaaGreat
open Go.RowKit
set_option linter.unusedSimpArgs false
set_option linter.unusedVariables false
set_option maxRecDepth 20000 in
set_option maxHeartbeats 1600000 in
theorem len_spec (p : Pcm) (ao : Option Addr) (cap : Nat) (w : World) (hr : RowsAt w ao p.pl) :
    Calls Tryz.prog 59 #[pcmV p ao cap] w fun e w' => e = .returned (.int .i64 (lenP p : Int)) ∧ Below w.heap.size w w' := by
  have hl := hr.len
  by_cases h0 : p.pl.length = 0
  · have e0 : lenP p = 0 := by
      unfold lenP
      rw [List.getD_eq_getElem?_getD, List.getElem?_eq_none (by omega)]
      rfl
    rw [e0]
    go_enter Tryz.func59, Tryz.ntmps59
    go_wp2
    go_ret
    exact ⟨rfl, (Below.refl _ _).alloc (Nat.le_refl _) _⟩
  · obtain ⟨b, off, rfl, hc⟩ := hr.lies (by omega)
    obtain ⟨a, c, h1, _, _, h2⟩ := hc 0 (by omega)
    have hb := lt_cell h1
    simp only at hb
    have hl2 := h2.len
    have e0 : (p.pl.getD 0 []).length = lenP p := rfl
    rw [e0, Nat.add_zero] at h1
    rw [e0] at hl2
    generalize lenP p = n at *
    clear hc h2 e0
    go_enter Tryz.func59, Tryz.ntmps59
    go_wp2
    go_ret
    exact ⟨rfl, (Below.refl _ _).alloc (Nat.le_refl _) _⟩

def mayB (rate ch wd : Int) : Bool := decide (1 ≤ rate ∧ rate ≤ 655350 ∧ 1 ≤ ch ∧ ch ≤ 8 ∧ 4 ≤ wd ∧ wd ≤ 32)

set_option maxRecDepth 20000 in
set_option maxHeartbeats 1600000 in
theorem mayBe_spec (rate ch wd : Int) (w : World) :
    Calls Tryz.prog 81 #[.int .i64 rate, .int .i64 ch, .int .i64 wd] w fun e w' => e = .returned (.bool (mayB rate ch wd)) ∧ w' = w := by
  by_cases g0 : rate < 1
  · have hd : mayB rate ch wd = false := decide_eq_false (by omega)
    rw [hd]
    go_enter Tryz.func81, Tryz.ntmps81
    go_wp2
    go_ret
    exact ⟨rfl, rfl⟩
  · skip
    by_cases g1 : 655350 < rate
    · have hd : mayB rate ch wd = false := decide_eq_false (by omega)
      rw [hd]
      go_enter Tryz.func81, Tryz.ntmps81
      go_wp2
      go_ret
      exact ⟨rfl, rfl⟩
    · skip
      by_cases g2 : ch < 1
      · have hd : mayB rate ch wd = false := decide_eq_false (by omega)
        rw [hd]
        go_enter Tryz.func81, Tryz.ntmps81
        go_wp2
        go_ret
        exact ⟨rfl, rfl⟩
      · skip
        by_cases g3 : 8 < ch
        · have hd : mayB rate ch wd = false := decide_eq_false (by omega)
          rw [hd]
          go_enter Tryz.func81, Tryz.ntmps81
          go_wp2
          go_ret
          exact ⟨rfl, rfl⟩
        · skip
          by_cases g4 : wd < 4
          · have hd : mayB rate ch wd = false := decide_eq_false (by omega)
            rw [hd]
            go_enter Tryz.func81, Tryz.ntmps81
            go_wp2
            go_ret
            exact ⟨rfl, rfl⟩
          · skip
            by_cases g5 : 32 < wd
            · have hd : mayB rate ch wd = false := decide_eq_false (by omega)
              have hb : decide (wd ≤ 32) = false := decide_eq_false (by omega)
              rw [hd]
              go_enter Tryz.func81, Tryz.ntmps81
              go_wp2
              go_ret
              exact ⟨rfl, rfl⟩
            · skip
              have hd : mayB rate ch wd = true := decide_eq_true (by omega)
              have hb : decide (wd ≤ 32) = true := decide_eq_true (by omega)
              rw [hd]
              go_enter Tryz.func81, Tryz.ntmps81
              go_wp2
              go_ret
              exact ⟨rfl, rfl⟩

theorem pow33 (k : Nat) (h : k ≤ 32) : (2 : Int) ^ k ≤ 4294967296 ∧ (1 : Int) ≤ 2 ^ k := by
  have h1 : (2 : Nat) ^ k ≤ 2 ^ 32 := Nat.pow_le_pow_right (by decide) h
  have h2 : 0 < (2 : Nat) ^ k := Nat.pow_pos (by decide)
  have e : (2 : Int) ^ k = ((2 ^ k : Nat) : Int) := by simp
  have e2 : (2 : Nat) ^ 32 = 4294967296 := by decide
  rw [e]
  omega

set_option maxRecDepth 20000 in
set_option maxHeartbeats 1600000 in
theorem half_spec (b : Int) (h1 : 1 ≤ b) (h33 : b ≤ 33) (w : World) :
    Calls Tryz.prog 92 #[.int .i64 b] w fun e w' => e = .returned (.int .i64 (2 ^ (b - 1).toNat)) ∧ w' = w := by
  obtain ⟨hp1, hp2⟩ := pow33 (b - 1).toNat (by omega)
  have hk : ((b - 1).toNat : Int) = b - 1 := by omega
  generalize hkk : (b - 1).toNat = k at *
  generalize hH : (2 : Int) ^ k = h at *
  go_enter Tryz.func92, Tryz.ntmps92
  go_wp2
  go_ret
  exact ⟨rfl, rfl⟩

set_option maxRecDepth 20000 in
set_option maxHeartbeats 1600000 in
theorem isSample_spec (n wd : Int) (h4 : 4 ≤ wd) (h32 : wd ≤ 32) (w : World) :
    Calls Tryz.prog 84 #[.int .i64 n, .int .i64 wd] w fun e w' => e = .returned (.bool (sampB n wd)) ∧ w' = w := by
  obtain ⟨hp1, hp2⟩ := pow31 (wd - 1).toNat (by omega)
  have kh := half_spec wd (by omega) (by omega)
  unfold sampB
  generalize hH : (2 : Int) ^ (wd - 1).toNat = h at *
  by_cases h1 : -h ≤ n
  · by_cases h2 : n < h
    · have hd : decide (-h ≤ n ∧ n < h) = true := decide_eq_true ⟨h1, h2⟩
      have hb : decide (n < h) = true := decide_eq_true h2
      rw [hd]
      go_enter Tryz.func84, Tryz.ntmps84
      go_wp2_with (go_at_call 92; refine (kh _).mono ?_; rintro e w4 ⟨rfl, rfl⟩)
      go_ret
      exact ⟨rfl, rfl⟩
    · have hd : decide (-h ≤ n ∧ n < h) = false := decide_eq_false (fun c => h2 c.2)
      have hb : decide (n < h) = false := decide_eq_false h2
      rw [hd]
      go_enter Tryz.func84, Tryz.ntmps84
      go_wp2_with (go_at_call 92; refine (kh _).mono ?_; rintro e w4 ⟨rfl, rfl⟩)
      go_ret
      exact ⟨rfl, rfl⟩
  · have hd : decide (-h ≤ n ∧ n < h) = false := decide_eq_false (fun c => h1 c.1)
    rw [hd]
    go_enter Tryz.func84, Tryz.ntmps84
    go_wp2_with (go_at_call 92; refine (kh _).mono ?_; rintro e w4 ⟨rfl, rfl⟩)
    go_ret
    exact ⟨rfl, rfl⟩

def alikeB (a b : Pcm) : Bool := decide (a.rate = b.rate ∧ a.ch = b.ch ∧ a.wd = b.wd)

end Go.Proofs.YtaepgjheknkojaaGreat

namespace Go.Proofs.YtaepgjheknkojaaGreat
open Go.RowKit
set_option linter.unusedSimpArgs false
set_option linter.unusedVariables false

def nby (wd : Int) : Nat := ((wd + 7) / 8).toNat
def codeN (wd : Int) (uns : Bool) (n : Int) : Int := if uns then n + 2 ^ (wd - 1).toNat else if n < 0 then n + 2 ^ (8 * nby wd) else n
def codeL (big : Bool) (wd : Int) (uns : Bool) (n : Int) : List Nat := if big then highL (codeN wd uns n).toNat (nby wd) else lowL (codeN wd uns n).toNat (nby wd)
/-- The first k channels of sample i. -/
def frameL (p : Pcm) (big uns : Bool) (i k : Nat) : List Nat := (List.range k).flatMap fun c => codeL big p.wd uns ((p.pl.getD c []).getD i 0)
/-- The first i samples. -/
def packL (p : Pcm) (big uns : Bool) (i : Nat) : List Nat := (List.range i).flatMap fun j => frameL p big uns j p.ch.toNat

theorem codeL_length (big : Bool) (wd : Int) (uns : Bool) (n : Int) : (codeL big wd uns n).length = nby wd := by
  unfold codeL
  split
  · rw [highL_length]
  · rw [lowL_length]
theorem codeL_lt (big : Bool) (wd : Int) (uns : Bool) (n : Int) : ∀ b ∈ codeL big wd uns n, b < 256 := by
  unfold codeL
  split
  · exact highL_lt _ _
  · exact lowL_lt _ _
theorem frameL_succ (p : Pcm) (big uns : Bool) (i k : Nat) : frameL p big uns i (k + 1) = frameL p big uns i k ++ codeL big p.wd uns ((p.pl.getD k []).getD i 0) := by
  unfold frameL
  rw [List.range_succ, List.flatMap_append]
  simp
theorem packL_succ (p : Pcm) (big uns : Bool) (i : Nat) : packL p big uns (i + 1) = packL p big uns i ++ frameL p big uns i p.ch.toNat := by
  unfold packL
  rw [List.range_succ, List.flatMap_append]
  simp
theorem frameL_length (p : Pcm) (big uns : Bool) (i : Nat) : ∀ k, (frameL p big uns i k).length = k * nby p.wd
  | 0 => by rw [Nat.zero_mul]; rfl
  | k + 1 => by rw [frameL_succ, List.length_append, frameL_length p big uns i k, codeL_length, Nat.succ_mul]
theorem packL_length (p : Pcm) (big uns : Bool) : ∀ i, (packL p big uns i).length = i * (p.ch.toNat * nby p.wd)
  | 0 => by rw [Nat.zero_mul]; rfl
  | i + 1 => by rw [packL_succ, List.length_append, packL_length p big uns i, frameL_length, Nat.succ_mul]
theorem frameL_lt (p : Pcm) (big uns : Bool) (i k : Nat) : ∀ b ∈ frameL p big uns i k, b < 256 := by
  intro b hb
  obtain ⟨c, _, h⟩ := List.mem_flatMap.1 hb
  exact codeL_lt _ _ _ _ b h
theorem packL_lt (p : Pcm) (big uns : Bool) (i : Nat) : ∀ b ∈ packL p big uns i, b < 256 := by
  intro b hb
  obtain ⟨c, _, h⟩ := List.mem_flatMap.1 hb
  exact frameL_lt _ _ _ _ _ b h

theorem nby_range (wd : Int) (h4 : 4 ≤ wd) (h32 : wd ≤ 32) : 1 ≤ nby wd ∧ nby wd ≤ 4 ∧ wd ≤ 8 * (nby wd : Int) ∧ (nby wd : Int) = (wd + 7) / 8 := by
  unfold nby
  omega

theorem pow_eq (k : Nat) : (2 : Int) ^ k = ((2 ^ k : Nat) : Int) := by simp
theorem pow256 (k : Nat) : (2 : Nat) ^ (8 * k) = 256 ^ k := by rw [Nat.pow_mul]

/-- A sample's code fits its bytes. -/
theorem codeN_fits (wd : Int) (uns : Bool) (n : Int) (h4 : 4 ≤ wd) (h32 : wd ≤ 32) (hs : sampB n wd = true) : 0 ≤ codeN wd uns n ∧ codeN wd uns n < 256 ^ nby wd ∧ codeN wd uns n ≤ 4294967295 := by
  obtain ⟨n1, n2, n3, n4⟩ := nby_range wd h4 h32
  have hs' := of_decide_eq_true hs
  have hp : (2 : Nat) ^ (wd - 1).toNat * 2 ≤ 256 ^ nby wd := by
    rw [← pow256, ← Nat.pow_succ]
    exact Nat.pow_le_pow_right (by decide) (by omega)
  have hq : 256 ^ nby wd ≤ 256 ^ 4 := Nat.pow_le_pow_right (by decide) n2
  have e4 : (256 : Nat) ^ 4 = 4294967296 := by decide
  have eI : (256 : Int) ^ nby wd = ((256 ^ nby wd : Nat) : Int) := by simp
  rw [eI]
  unfold codeN
  rw [pow_eq, pow_eq] at *
  rw [pow256]
  have h0 : 0 < 2 ^ (wd - 1).toNat := Nat.pow_pos (by decide)
  generalize (2 : Nat) ^ (wd - 1).toNat = H at *
  generalize (256 : Nat) ^ nby wd = M at *
  split
  · omega
  · split <;> omega

end Go.Proofs.YtaepgjheknkojaaGreat
