/- Own text: the walk of the document's Unpack, its early ends. the walk of the document's Unpack, its loop. the walk of the document's Unpack. the program answers Unpack as the document does. a file that was read is laid as it was; plain laws. -/
import Derived.Test.YtfnkdahocehilaaG42x
import Derived.Test.YtfnkdahocehilaaG43x
import Derived.Laws.IdiomArrays
import Derived.Test.YtfnkdahocehilaaQ6build
namespace Go.Proofs.Ytfnkdahocehilaa
open Go.RowKit
set_option linter.unusedSimpArgs false
set_option linter.unusedVariables false

theorem make_rows (C : Nat) (h : C ≤ 8) (w : World) :
    (Instr.makeSlice 22 (.int .i64 (C : Int)) (.int .i64 (C : Int))).run Try.prog w = .ok (.slice (some ⟨w.heap.size, 0, none⟩) C C) (w.alloc (.cells (madeCells #[noS] C) 73)) :=
  run_make_row' 22 73 noS 24 Try.underlying22 infoI rfl .i64 .i64 C (by omega) (by omega) w

theorem getD_rep {α : Type} (n : Nat) (x d : α) (k : Nat) (h : k < n) : (List.replicate n x).getD k d = x := by
  rw [List.getD_eq_getElem?_getD, List.getElem?_replicate, if_pos h]
  rfl
theorem Up.new (w : World) (big uns : Bool) (rate ch wd : Int) (C : Nat) (hC : C ≤ 8) :
    Up w big uns rate ch wd C (List.replicate C noS) (List.replicate C []) ((((w.alloc (.cells #[.bool big, .bool uns] 51)).alloc (.cells zeroP 24)).alloc (.cells (madeCells #[noS] C) 73)).alloc (.cells #[.int .i64 rate, .int .i64 ch, .int .i64 wd, .slice (some ⟨w.heap.size + 2, 0, none⟩) C C] 24)) := by
  have hu := Un.new w big uns
  have h2 := Un.new0 w big uns
  generalize (w.alloc (.cells #[.bool big, .bool uns] 51)).alloc (.cells zeroP 24) = w1 at *
  have hm : (w1.alloc (.cells (madeCells #[noS] C) 73)).ownsRow (w.heap.size + 2) 73 1 (.slice (some ⟨w1.heap.size, 0, none⟩) C C) C (madeCells #[noS] C).toList := World.ownsRow_lit w1 _ C (by omega) (by simp only [maxLen]; omega) (by rw [size_madeCells]; omega)
  rw [h2, toList_madeCells_one] at hm
  have hB : Below w1.heap.size w1 (w1.alloc (.cells (madeCells #[noS] C) 73)) := (Below.refl _ _).alloc (Nat.le_refl _) _
  have h3 : (w1.alloc (.cells (madeCells #[noS] C) 73)).heap.size = w.heap.size + 3 := by simp [h2]
  generalize w1.alloc (.cells (madeCells #[noS] C) 73) = w2 at *
  have hB2 : Below w2.heap.size w2 (w2.alloc (.cells #[.int .i64 rate, .int .i64 ch, .int .i64 wd, .slice (some ⟨w.heap.size + 2, 0, none⟩) C C] 24)) := (Below.refl _ _).alloc (Nat.le_refl _) _
  refine ⟨?_, ?_, ?_, ⟨?_, fun i hi => ?_, fun i j hi hj hij => ?_, fun i hi => ?_⟩, List.length_replicate, fun k hk => ?_, by simp [h3], ?_⟩
  · rw [hB2.block _ (by omega), hB.block _ (by omega)]
    exact hu.lay
  · rw [hB2.block _ (by omega), hB.block _ (by omega)]
    exact hu.res
  · rw [← h3]
    exact heap_alloc_new _ _
  · rw [List.length_replicate]
    exact owns_below hm hB2
  · rw [List.length_replicate] at hi
    rw [getD_rep _ _ _ _ hi, getD_rep _ _ _ _ hi]
    exact World.ownsRow_nil _ _ _ _
  · rw [List.length_replicate] at hi
    rw [getD_rep _ _ _ _ hi]
    exact .inl rfl
  · rw [List.length_replicate] at hi
    rw [getD_rep _ _ _ _ hi]
    exact .inl rfl
  · rw [List.length_replicate] at hk
    rw [getD_rep _ _ _ _ hk]
    exact fun q => (by cases q)
  · exact (hu.below.trans (hB.mono hu.below.size)).trans (hB2.mono (by omega))

theorem uhead_parts {rate ch wd : Int} (h : uheadB rate ch wd = true) : 1 ≤ rate ∧ rate ≤ 655350 ∧ 1 ≤ ch ∧ ch ≤ 8 ∧ 4 ≤ wd ∧ wd ≤ 32 := of_decide_eq_true h

end Go.Proofs.Ytfnkdahocehilaa

namespace Go.Proofs.Ytfnkdahocehilaa
open Go.RowKit
set_option linter.unusedSimpArgs false
set_option linter.unusedVariables false

section
variable {w0 w w1 : World} {big uns : Bool} {rate ch wd : Int} {C : Nat} {vs : List Value} {xs : List (List Int)}
theorem Up.qc (h : Up w0 big uns rate ch wd C vs xs w) (j : Nat) (v : Value) (hv : (#[.int .i64 rate, .int .i64 ch, .int .i64 wd, .slice (some ⟨w0.heap.size + 2, 0, none⟩) C C] : Array Value)[j]? = some v) : w.cell? ⟨w0.heap.size + 1 + 1 + 1, j, none⟩ = some v := by rw [cell_of_row _ _ _ _ _ _ h.q]; exact hv
theorem Up.r0 (h : Up w0 big uns rate ch wd C vs xs w) : w.cell? ⟨w0.heap.size + 1, 0, none⟩ = some (.int .i64 0) := by rw [cell_of_row _ _ _ _ _ _ h.res]; rfl
theorem Up.r1 (h : Up w0 big uns rate ch wd C vs xs w) : w.cell? ⟨w0.heap.size + 1, 1, none⟩ = some (.int .i64 0) := by rw [cell_of_row _ _ _ _ _ _ h.res]; rfl
theorem Up.r2 (h : Up w0 big uns rate ch wd C vs xs w) : w.cell? ⟨w0.heap.size + 1, 2, none⟩ = some (.int .i64 0) := by rw [cell_of_row _ _ _ _ _ _ h.res]; rfl
theorem Up.r3 (h : Up w0 big uns rate ch wd C vs xs w) : w.cell? ⟨w0.heap.size + 1, 3, none⟩ = some (.slice none 0 0) := by rw [cell_of_row _ _ _ _ _ _ h.res]; rfl
theorem Up.z (h : Up w0 big uns rate ch wd C vs xs w) (j : Nat) : w.frozen? ⟨w0.heap.size + 1, j, none⟩ = false := by
  have hrs := h.res
  simp [World.frozen?, hrs]
theorem Up.kept (h : Up w0 big uns rate ch wd C vs xs w) (k : Nat) (hk : k < C) (hg : w.grownBy w1 (vs.getD k noS).ownBlock) :
    w1.cell? ⟨w0.heap.size + 1 + 1 + 1, 3, none⟩ = some (.slice (some ⟨w0.heap.size + 1 + 1, 0, none⟩) C C) ∧ w1.cell? ⟨w0.heap.size + 1 + 1, k, none⟩ = some (vs.getD k noS) ∧ w1.frozen? ⟨w0.heap.size + 1 + 1, k, none⟩ = false := by
  have hl := h.len
  have hsz := h.size
  obtain ⟨c1, c2⟩ := h.row k hk
  have n3 : some (w0.heap.size + 3) ≠ (vs.getD k noS).ownBlock := fun q => h.far k (by omega) q.symm
  have n2 : some (w0.heap.size + 2) ≠ (vs.getD k noS).ownBlock := fun q => by
    rcases h.mat.aside k (by omega) with q2 | q2
    · rw [q2] at q
      cases q
    · exact q2 (by rw [← q]; rfl)
  have b3 : w1.heap[w0.heap.size + 3]? = w.heap[w0.heap.size + 3]? := hg.block _ (by omega) n3
  have b2 : w1.heap[w0.heap.size + 2]? = w.heap[w0.heap.size + 2]? := hg.block _ (by omega) n2
  refine ⟨?_, ?_, ?_⟩
  · have := h.q
    rw [← b3] at this
    rw [cell_of_row _ _ _ _ _ _ this]
    rfl
  · have e : w1.cell? ⟨w0.heap.size + 2, k, none⟩ = w.cell? ⟨w0.heap.size + 2, k, none⟩ := by simp [World.cell?, b2]
    exact e.trans c1
  · have e : w1.frozen? ⟨w0.heap.size + 2, k, none⟩ = w.frozen? ⟨w0.heap.size + 2, k, none⟩ := by simp [World.frozen?, b2]
    exact e.trans c2
end
theorem upL_len (s : ByteArray) (wd : Int) (big uns : Bool) (ch : Nat) : ∀ i k, ((upL s wd big uns ch i).getD k []).length ≤ i
  | 0, k => by
    have e : (upL s wd big uns ch 0).getD k [] = [] := by
      simp only [upL, List.getD_eq_getElem?_getD, List.getElem?_replicate]
      split <;> rfl
    rw [e]
    exact Nat.le_refl _
  | i + 1, k => by
    have hl := upL_length s wd big uns ch i
    have ih := upL_len s wd big uns ch i
    rw [upL]
    by_cases e : i % ch = k
    · by_cases hk : k < ch
      · subst e
        rw [getD_set_eq _ _ _ _ (by omega), List.length_append, List.length_singleton]
        have := ih (i % ch)
        omega
      · rw [List.getD_eq_getElem?_getD, List.getElem?_eq_none (by rw [List.length_set]; omega)]
        exact Nat.zero_le _
    · rw [getD_set_ne _ _ _ _ _ e]
      have := ih k
      omega
theorem upL_good (s : ByteArray) (wd : Int) (big uns : Bool) (ch : Nat) (i : Nat) (hs : ∀ j, j < i → sampB (numI s wd big uns j) wd = true) (h4 : 4 ≤ wd) (h32 : wd ≤ 32) (k : Nat) (hk : k < ch) : ((upL s wd big uns ch i).getD k []).length ≤ i ∧ ∀ n ∈ (upL s wd big uns ch i).getD k [], -9223372036854775808 ≤ n ∧ n ≤ 9223372036854775807 := by
  refine ⟨upL_len s wd big uns ch i k, ?_⟩
  induction i generalizing k with
  | zero =>
    have e : (upL s wd big uns ch 0).getD k [] = [] := by simp [upL, List.getD_eq_getElem?_getD, hk]
    rw [e]
    exact fun n hn => by cases hn
  | succ i ih =>
    have hl := upL_length s wd big uns ch i
    rw [upL]
    by_cases e : i % ch = k
    · subst e
      rw [getD_set_eq _ _ _ _ (by omega)]
      intro n hn
      rcases List.mem_append.1 hn with hn | hn
      · exact ih (fun j hj => hs j (by omega)) (i % ch) hk n hn
      · rw [List.mem_singleton] at hn
        rw [hn]
        have h1 := of_decide_eq_true (hs i (by omega))
        obtain ⟨p1, p2⟩ := pow31 (wd - 1).toNat (by omega)
        omega
    · rw [getD_set_ne _ _ _ _ _ e]
      exact ih (fun j hj => hs j (by omega)) k hk

end Go.Proofs.Ytfnkdahocehilaa

namespace Go.Proofs.Ytfnkdahocehilaa
open Go.RowKit
set_option linter.unusedSimpArgs false
set_option linter.unusedVariables false

end Go.Proofs.Ytfnkdahocehilaa

namespace Go.Proofs.Ytfnkdahocehilaa
open Go.RowKit
set_option linter.unusedSimpArgs false
set_option linter.unusedVariables false

theorem numM_numI (s : ByteArray) (wd : Int) (big uns : Bool) (i : Nat) : numM s wd big uns i = numI s wd big uns i := by
  show decM wd uns (mOf s (nby wd) big i) = decN wd uns (mOf s (nby wd) big i)
  have e : (wd - 1).toNat = wd.toNat - 1 := by omega
  unfold decM decN
  rw [e]
theorem uE_unpE (s : ByteArray) (rate ch wd : Int) (big uns : Bool) : uE s rate ch wd big uns = unpE s rate ch wd big uns := by
  unfold uE unpE
  simp only [numM_numI]
  rfl
theorem uP_unpP (s : ByteArray) (rate ch wd : Int) (big uns : Bool) : uP s rate ch wd big uns = unpP s rate ch wd big uns := by
  unfold uP unpP
  rw [uE_unpE]
  by_cases h : unpE s rate ch wd big uns = 0
  · rw [if_pos h, if_pos h]
    have hh : uheadB rate ch wd = true := by
      cases q : uheadB rate ch wd with
      | true => rfl
      | false => unfold unpE at h; rw [q, if_neg (by decide)] at h; exact absurd h (by decide)
    have hm : s.size % (nby wd * ch.toNat) = 0 := by
      by_cases q : s.size % (nby wd * ch.toNat) = 0
      · exact q
      · unfold unpE at h; rw [hh, if_pos rfl, if_neg q] at h; exact absurd h (by decide)
    have hp : 1 ≤ rate ∧ rate ≤ 655350 ∧ 1 ≤ ch ∧ ch ≤ 8 ∧ 4 ≤ wd ∧ wd ≤ 32 := of_decide_eq_true hh
    have hn := (nby_range wd (by omega) (by omega)).1
    have hc : 0 < ch.toNat := by omega
    have hd : s.size / (nby wd * ch.toNat) * (nby wd * ch.toNat) = s.size := Nat.div_mul_cancel (Nat.dvd_of_mod_eq_zero hm)
    generalize s.size / (nby wd * ch.toNat) = n at *
    have e3 : s.size / nby wd = n * ch.toNat := by rw [← hd, Nat.mul_comm (nby wd), ← Nat.mul_assoc]; exact Nat.mul_div_cancel _ hn
    rw [e3]
    have e4 : uL s wd big uns ch.toNat n = upL s wd big uns ch.toNat (n * ch.toNat) := by
      refine list_ext _ _ [] (by rw [upL_length]; exact matL_length _ _ _) fun k hk => ?_
      have hk2 : k < ch.toNat := by
        have := matL_length ch.toNat n fun k i => numM s wd big uns (i * ch.toNat + k)
        show k < ch.toNat
        rw [← this]
        exact hk
      rw [upL_full s wd big uns ch.toNat n hc k hk2]
      show (matL ch.toNat n fun k i => numM s wd big uns (i * ch.toNat + k)).getD k [] = _
      rw [matL_at _ _ _ k hk2]
      apply List.map_congr_left
      intro i _
      exact numM_numI s wd big uns _
    rw [e4]
  · rw [if_neg h, if_neg h]
    rfl
theorem sameB_refl (p : Pcm) : sameB p p = true := by
  unfold sameB
  simp

section
open Go.ChangeShapes Go.WideShapes Go.ChangeAt Go.RowKit Go.Deep
variable {H : Type} {enc : TypeId × Value → H} {w : World} {base base2 : Nat} {held : Bool}
end

end Go.Proofs.Ytfnkdahocehilaa

namespace Go.Proofs.Ytfnkdahocehilaa
open Go.RowKit
set_option linter.unusedSimpArgs false
set_option linter.unusedVariables false

theorem bytes_inj {a b : ByteArray} (h : bytesOf a = bytesOf b) : a = b := by
  rw [← textOf_bytesOf a, ← textOf_bytesOf b, h]
theorem bytes_ext (s : ByteArray) (a b : Nat) : bytesOf (s.extract a b) = ((bytesOf s).take b).drop a := bytesOf_extract s a b
/-- Four bytes as a number, and back. -/
theorem le_from4 (x : ByteArray) (h : x.size = 4) : leT (leI x) 4 = x := by
  have hl : (bytesOf x).reverse.length = 4 := by rw [List.length_reverse, bytesOf_length, h]
  have hlt : ∀ b ∈ (bytesOf x).reverse, b < 256 := fun b hb => bytesOf_lt x b (List.mem_reverse.1 hb)
  have h1 := val_lt _ hlt
  rw [hl] at h1
  have e : leI x = ((val (bytesOf x).reverse : Nat) : Int) := fromBe_of _ (by omega) (by omega)
  have hf := fits_of_nat (val (bytesOf x).reverse) 4 (by decide) (by decide) h1
  have e2 := leT_nat (val (bytesOf x).reverse) 4 hf
  rw [e]
  refine e2.trans ?_
  rw [← lowL_reverse, high_val _ 4 hl hlt, List.reverse_reverse, textOf_bytesOf]
/-- How a text was read. -/
def Reads (f : Fst) : List Chk → ByteArray → Prop
  | [], s => s.size = 0
  | c :: t, s => begB f.z s = true ∧ c = begC f.z s ∧ (takeN f c).2 = 0 ∧ Reads (takeN f c).1 t (begR f.z s)
theorem read_reads : ∀ (n : Nat) (f : Fst) (l : List Chk) (s : ByteArray) (g : Fst) (l' : List Chk), s.size < n → readN n f l s = (g, l', 0) →
    ∃ L, l' = l ++ L.map bareC ∧ hasN f L = (g, true) ∧ endN g = 0 ∧ Reads f L s ∧ (l.length ≤ 1024 → l.length + L.length ≤ 1024)
  | 0, f, l, s, g, l', h, _ => absurd h (Nat.not_lt_zero _)
  | n + 1, f, l, s, g, l', h, he => by
    rw [readN] at he
    by_cases h0 : s.size = 0
    · rw [if_pos h0] at he
      simp only [Prod.mk.injEq] at he
      obtain ⟨rfl, rfl, he⟩ := he
      exact ⟨[], by simp, rfl, he, h0, fun q => q⟩
    · rw [if_neg h0] at he
      by_cases hb : begB f.z s = true
      · rw [if_pos hb] at he
        by_cases hl : 1024 ≤ l.length
        · rw [if_pos hl] at he
          simp at he
        · rw [if_neg hl] at he
          by_cases ht : (takeN f (begC f.z s)).2 = 0
          · rw [if_pos ht] at he
            have hr := begR_size f.z s hb
            obtain ⟨L, e1, e2, e3, e4, e5⟩ := read_reads n _ _ _ g l' (by omega) he
            refine ⟨begC f.z s :: L, ?_, ?_, e3, ⟨hb, rfl, ht, e4⟩, ?_⟩
            · rw [e1, List.append_assoc]
              rfl
            · rw [hasN_yes _ _ _ ht]
              exact e2
            · intro _
              have := e5 (by rw [List.length_append]; simp; omega)
              rw [List.length_append] at this
              simp at this ⊢
              omega
          · rw [if_neg ht] at he
            simp only [Prod.mk.injEq] at he
            exact absurd he.2.2 ht
      · rw [if_neg hb] at he
        simp at he
theorem beg_parts (z : Siz) (s : ByteArray) (h : begB z s = true) : 8 ≤ s.size ∧ idB (s.extract 0 4) = true ∧ ∃ n : Nat, lenZ z s = (n : Int) ∧ 8 + n ≤ s.size := by
  unfold begB at h
  obtain ⟨h1, h2⟩ := Bool.and_eq_true_iff.1 h
  obtain ⟨hid, h3⟩ := Bool.and_eq_true_iff.1 h2
  obtain ⟨h4, h5⟩ := Bool.and_eq_true_iff.1 h3
  have h1 := of_decide_eq_true h1
  have h4 := of_decide_eq_true h4
  have h5 := of_decide_eq_true h5
  exact ⟨h1, hid, (lenZ z s).toNat, by omega, by omega⟩
theorem begC_eq (z : Siz) (s : ByteArray) (n : Nat) (h : lenZ z s = (n : Int)) : begC z s = ⟨s.extract 0 4, s.extract 8 (8 + n), padC s n⟩ := by
  unfold begC
  rw [h]
  rfl
theorem begN_eq (z : Siz) (s : ByteArray) (n : Nat) (h : lenZ z s = (n : Int)) : begN z s = 8 + n + (if n % 2 = 1 ∧ 8 + n < s.size then 1 else 0) := by
  unfold begN
  rw [h]
  rfl
theorem odd_beg (z : Siz) (s : ByteArray) (n : Nat) (h : lenZ z s = (n : Int)) (hle : 8 + n ≤ s.size) : oddC (begC z s) = decide (n % 2 = 1) := by
  rw [begC_eq z s n h]
  unfold oddC
  rw [ext_size _ _ _ (by omega) hle]
  congr 1
  rw [Nat.add_sub_cancel_left]
theorem pad_beg (z : Siz) (s : ByteArray) (n : Nat) (h : lenZ z s = (n : Int)) (hle : 8 + n ≤ s.size) : hasPadB (begC z s) = decide (n % 2 = 1 ∧ 8 + n < s.size) := by
  unfold hasPadB
  rw [odd_beg z s n h hle, begC_eq z s n h]
  show (decide (n % 2 = 1) && (padC s n != -1)) = _
  unfold padC
  by_cases h1 : n % 2 = 1
  · by_cases h2 : 8 + n < s.size
    · rw [if_pos h1, if_pos h2, decide_eq_true h1, decide_eq_true ⟨h1, h2⟩, Bool.true_and, bne_iff_ne]
      omega
    · rw [if_pos h1, if_neg h2, decide_eq_true h1, decide_eq_false (fun q => h2 q.2)]
      rfl
  · rw [decide_eq_false h1, decide_eq_false (fun q => h1 q.1)]
    rfl
theorem sizeC_beg (z : Siz) (s : ByteArray) (hb : begB z s = true) : sizeC (begC z s) = begN z s := by
  obtain ⟨_, _, n, hn, hle⟩ := beg_parts z s hb
  unfold sizeC
  rw [pad_beg z s n hn hle, begN_eq z s n hn, begC_eq z s n hn]
  show 8 + (s.extract 8 (8 + n)).size + _ = _
  rw [ext_size _ _ _ (by omega) hle, Nat.add_sub_cancel_left]
  congr 1
  by_cases q : n % 2 = 1 ∧ 8 + n < s.size
  · rw [if_pos q, decide_eq_true q]
    rfl
  · rw [if_neg q, decide_eq_false q]
    rfl
theorem reads_size : ∀ (L : List Chk) (f : Fst) (s : ByteArray), Reads f L s → sizeL L = s.size
  | [], f, s, h => by
    have h : s.size = 0 := h
    rw [h]
    rfl
  | c :: t, f, s, h => by
    obtain ⟨hb, rfl, _, hr⟩ := h
    have ih := reads_size t _ _ hr
    have e : sizeL (begC f.z s :: t) = sizeC (begC f.z s) + sizeL t := by simp [sizeL]
    have hN := begN_le f.z s hb
    rw [e, ih, sizeC_beg f.z s hb]
    unfold begR
    rw [ext_size _ _ _ hN.2 (Nat.le_refl _)]
    omega
theorem reads_nil (f : Fst) (t : List Chk) (s : ByteArray) (h : Reads f t s) (h0 : s.size = 0) : t = [] := by
  cases t with
  | nil => rfl
  | cons c t =>
    have := (beg_parts f.z s h.1).1
    omega
theorem padOk_beg (z : Siz) (s : ByteArray) (hb : begB z s = true) (last : Bool) (hl : (begR z s).size = 0 → last = true) : layOk (begC z s) last = true := by
  obtain ⟨h8, hid, n, hn, hle⟩ := beg_parts z s hb
  rw [layOk_eq]
  have hi : idB (begC z s).id = true := by rw [begC_eq z s n hn]; exact hid
  rw [hi, Bool.true_and]
  have ho := odd_beg z s n hn hle
  by_cases h1 : n % 2 = 1
  · rw [decide_eq_true h1] at ho
    by_cases h2 : 8 + n < s.size
    · have hp : (begC z s).pad = ((bytesOf s).getD (8 + n) 0 : Int) := by
        rw [begC_eq z s n hn]
        show padC s n = _
        unfold padC
        rw [if_pos h1, if_pos h2]
      have hlt : (bytesOf s).getD (8 + n) 0 < 256 := by
        rw [byte_getD s _ h2]
        exact (s[8 + n]'h2).toNat_lt
      rw [padOk_some _ last ho (by rw [hp]; omega), hp, decide_eq_true (by omega), decide_eq_true (by omega)]
      rfl
    · have hp : (begC z s).pad = -1 := by
        rw [begC_eq z s n hn]
        show padC s n = _
        unfold padC
        rw [if_pos h1, if_neg h2]
      rw [padOk_none _ last ho hp]
      apply hl
      unfold begR
      rw [begN_eq z s n hn, if_neg (fun q => h2 q.2), ByteArray.size_extract]
      omega
  · rw [decide_eq_false h1] at ho
    have hp : (begC z s).pad = 0 := by
      rw [begC_eq z s n hn]
      show padC s n = _
      unfold padC
      rw [if_neg h1]
    rw [padOk_even _ last ho, hp]
    rfl
theorem reads_lay : ∀ (L : List Chk) (f : Fst) (s : ByteArray), Reads f L s → layAll L = true
  | [], f, s, h => rfl
  | [c], f, s, h => by
    obtain ⟨hb, rfl, _, _⟩ := h
    exact padOk_beg f.z s hb true (fun _ => rfl)
  | c :: d :: t, f, s, h => by
    obtain ⟨hb, rfl, ht, hr⟩ := h
    show (layOk _ false && layAll (d :: t)) = true
    rw [reads_lay (d :: t) _ _ hr, Bool.and_true]
    refine padOk_beg f.z s hb false (fun h0 => ?_)
    cases reads_nil _ _ _ hr h0
/-- far is turned by ds64 alone, and only at the beginning. -/
theorem takeN_z (f : Fst) (c : Chk) : (takeN f c).1.z = f.z ∨ (f.seen = 0 ∧ c.id = idSizes ∧ (takeN f c).1.z.far = idData ∧ (takeN f c).1.z.big = f.z.big) := by
  unfold takeN
  split
  · exact Or.inl rfl
  · rename_i h1
    split
    · rename_i h2
      obtain ⟨hl, hi⟩ := Bool.and_eq_true_iff.1 h2
      have hz : (c.id.toList == idSizes.toList) = true := by
        rw [hl, hi] at h1
        cases q : c.id.toList == idSizes.toList
        · rw [q] at h1
          exact absurd rfl h1
        · rfl
      unfold takeSizesN
      split
      · exact Or.inl rfl
      · split
        · exact Or.inl rfl
        · split
          · exact Or.inl rfl
          · refine Or.inr ⟨?_, eq_of_list _ _ hz, rfl, rfl⟩
            have := eq_of_beq hi
            omega
    · split
      · unfold takeFmtN
        split <;> exact Or.inl rfl
      · split
        · unfold takeDataN
          split <;> exact Or.inl rfl
        · exact Or.inl rfl
theorem hasN_z : ∀ (L : List Chk) (f : Fst), 1 ≤ f.seen → (hasN f L).1.z = f.z
  | [], f, _ => rfl
  | c :: t, f, h => by
    have h1 : (takeN f c).1.z = f.z := by
      rcases takeN_z f c with q | q
      · exact q
      · omega
    rw [hasN]
    split
    · rw [hasN_z t _ (by rw [takeN_seen]; omega), h1]
    · exact h1
theorem sizes_ne_data : (idSizes.toList == idData.toList) = false := by rw [sizes_list, idData_list]; decide
theorem none_ne (x : ByteArray) (h : x.size = 4) : (x.toList == (⟨#[]⟩ : ByteArray).toList) = false := by
  cases q : x.toList == (⟨#[]⟩ : ByteArray).toList
  · rfl
  · have := eq_of_list _ _ q
    rw [this] at h
    cases h
theorem fromN_false (x : ByteArray) : fromN x false = leI x := rfl
/-- What stands in a chunk's head is what is told, by whatever way of telling the file has at its end. -/
theorem told_beg (z zf : Siz) (s : ByteArray) (hb : begB z s = true) (hz : z.big = false) (hzf : zf.big = false) (h : zf = z ∨ (z.far = ⟨#[]⟩ ∧ (begC z s).id = idSizes ∧ zf.far = idData)) : toldT zf (begC z s) = s.extract 4 8 := by
  obtain ⟨h8, hid, n, hn, hle⟩ := beg_parts z s hb
  have hid4 := idB_size _ hid
  have hx : (s.extract 4 8).size = 4 := ext_size _ _ _ (by omega) h8
  have hbs : (begC z s).body.size = n := by
    rw [begC_eq z s n hn]
    show (s.extract 8 (8 + n)).size = n
    rw [ext_size _ _ _ (by omega) hle, Nat.add_sub_cancel_left]
  have hci : (begC z s).id = s.extract 0 4 := by rw [begC_eq z s n hn]
  have hl : lenM z (s.extract 0 4) (s.extract 4 8) = (n : Int) := hn
  have key : toldN zf (begC z s) = leI (s.extract 4 8) := by
    unfold toldN
    unfold lenM at hl
    rw [hz, fromN_false] at hl
    generalize leI (s.extract 4 8) = m at *
    rcases h with rfl | ⟨h1, h2, h3⟩
    · rw [hci]
      cases q : (s.extract 0 4).toList == zf.far.toList
      · rw [q] at hl
        simp only [Bool.false_eq_true, if_false] at hl ⊢
        rw [hbs, hl]
      · rw [q] at hl
        simp only [if_true] at hl ⊢
        cases q2 : m != 4294967295
        · have : m = 4294967295 := by simpa using q2
          exact this.symm
        · rw [q2] at hl
          simp only [if_true] at hl
          omega
    · rw [h2, h3, sizes_ne_data]
      rw [h1, none_ne _ hid4] at hl
      simp only [Bool.false_eq_true, if_false] at hl ⊢
      rw [hbs, hl]
  unfold toldT
  rw [key, hzf, toT_false, le_from4 _ hx]
theorem take_add {α : Type} (l : List α) (a b : Nat) : l.take (a + b) = l.take a ++ (l.drop a).take b := List.take_add
theorem chunk_beg (z zf : Siz) (s : ByteArray) (hb : begB z s = true) (ht : toldT zf (begC z s) = s.extract 4 8) : chunkL zf (begC z s) = (bytesOf s).take (begN z s) := by
  obtain ⟨h8, hid, n, hn, hle⟩ := beg_parts z s hb
  unfold chunkL
  rw [ht, pad_beg z s n hn hle, begN_eq z s n hn, begC_eq z s n hn]
  show bytesOf (s.extract 0 4) ++ bytesOf (s.extract 4 8) ++ bytesOf (s.extract 8 (8 + n)) ++ _ = _
  simp only [bytes_ext]
  have e1 : ((bytesOf s).take 4).drop 0 = (bytesOf s).take 4 := rfl
  have e2 : ((bytesOf s).take 8).drop 4 = ((bytesOf s).drop 4).take 4 := by rw [List.drop_take]
  have e3 : ((bytesOf s).take (8 + n)).drop 8 = ((bytesOf s).drop 8).take n := by rw [List.drop_take, Nat.add_sub_cancel_left]
  rw [e1, e2, e3]
  have e4 : (bytesOf s).take 4 ++ ((bytesOf s).drop 4).take 4 = (bytesOf s).take 8 := (take_add _ 4 4).symm
  rw [e4, ← take_add]
  by_cases q : n % 2 = 1 ∧ 8 + n < s.size
  · rw [decide_eq_true q, if_pos q]
    have hp : padC s n = ((bytesOf s).getD (8 + n) 0 : Int) := by
      unfold padC
      rw [if_pos q.1, if_pos q.2]
    show _ ++ [(padC s n).toNat] = _
    rw [hp, take_add _ (8 + n) 1]
    congr 1
    have hlt : 8 + n < (bytesOf s).length := by rw [bytesOf_length]; exact q.2
    rw [List.getD_eq_getElem?_getD, List.getElem?_eq_getElem hlt, List.drop_eq_getElem_cons hlt]
    rfl
  · rw [decide_eq_false q, if_neg q]
    simp
/-- The chunks that were read, laid, are the text. -/
theorem reads_text : ∀ (L : List Chk) (f : Fst) (s : ByteArray) (zf : Siz), f.z.big = false → zf.big = false → (hasN f L).1.z = zf → (f.seen = 0 → f.z.far = ⟨#[]⟩) → 0 ≤ f.seen → Reads f L s → layZ zf L = bytesOf s
  | [], f, s, zf, _, _, _, _, _, h => by
    have h : s.size = 0 := h
    have : (bytesOf s).length = 0 := by rw [bytesOf_length]; exact h
    rw [List.length_eq_zero_iff.1 this]
    rfl
  | c :: t, f, s, zf, hb0, hzf, hz, hfar, hs0, h => by
    obtain ⟨hb, rfl, ht, hr⟩ := h
    have hz2 : (hasN (takeN f (begC f.z s)).1 t).1.z = zf := by rw [← hasN_yes _ _ _ ht]; exact hz
    have hz3 : (takeN f (begC f.z s)).1.z = zf := by rw [← hz2]; exact (hasN_z t _ (by rw [takeN_seen]; omega)).symm
    have hb1 : (takeN f (begC f.z s)).1.z.big = false := by rw [hz3]; exact hzf
    have ih := reads_text t _ _ zf hb1 hzf hz2 (fun q => by rw [takeN_seen] at q; omega) (by rw [takeN_seen]; omega) hr
    have htl : toldT zf (begC f.z s) = s.extract 4 8 := by
      refine told_beg f.z zf s hb hb0 hzf ?_
      rcases takeN_z f (begC f.z s) with q | ⟨q1, q2, q3, _⟩
      · exact Or.inl (hz3.symm.trans q)
      · exact Or.inr ⟨hfar q1, q2, by rw [← hz3]; exact q3⟩
    show chunkL zf (begC f.z s) ++ layZ zf t = _
    rw [ih, chunk_beg f.z zf s hb htl]
    unfold begR
    have e : (bytesOf s).take s.size = bytesOf s := List.take_of_length_le (by rw [bytesOf_length]; exact Nat.le_refl _)
    rw [bytes_ext, e, List.take_append_drop]

end Go.Proofs.Ytfnkdahocehilaa
