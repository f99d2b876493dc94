/- Own text: (*strings.Builder).WriteByte, by the library's promise. lay's builder. the walk of the document's Unpack, its beginning. packed and unpacked, the plain laws. -/
import Derived.Test.YtaepgjheknkojaaQ5shelf
import Derived.Test.YtaepgjheknkojaaG25x
import Derived.Test.YtaepgjheknkojaaG17x
import Derived.Shelf.Strings.BuilderK
import Derived.Test.YtaepgjheknkojaaG6x
import Derived.Test.YtaepgjheknkojaaG11x
import Derived.Test.YtaepgjheknkojaaRefbytes
namespace Go.Proofs.Ytaepgjheknkojaa
open Go.RowKit
set_option linter.unusedSimpArgs false
set_option linter.unusedVariables false

open Go.Shelf
def shelfRen6 : Go.Shelf.Ren := ⟨fun | 165 => 36 | 166 => 40 | 167 => 92 | 169 => 42 | 240 => 63 | 241 => 64 | 276 => 83 | 277 => 84 | n => n, fun | 0 => 0 | 3 => 3 | 4 => 4 | 5 => 5 | 9 => 9 | 20 => 20 | 37 => 81 | 70 => 80 | 72 => 83 | 164 => 134 | 75 => 89 | 80 => 64 | 127 => 117 | n => n, fun | n => n⟩
theorem lays167 : Go.Proofs.Lays.n167 Try.prog shelfRen6 := {
  mixed := by kernel_rfl
  f167 := Try.func92.trans (congrArg some (by kernel_rfl))
  f240 := Try.func63.trans (congrArg some (by kernel_rfl))
  f276 := Try.func83.trans (congrArg some (by kernel_rfl))
  t0 := Try.underlying0
  a0 := Try.isAgg0
  z0 := Try.sizeOf0
  v0 := Try.zeroValue0
  t4 := Try.underlying4
  a4 := Try.isAgg4
  z4 := Try.sizeOf4
  v4 := Try.zeroValue4
  t5 := Try.underlying5
  a5 := Try.isAgg5
  z5 := Try.sizeOf5
  v5 := Try.zeroValue5
  t9 := Try.underlying9
  a9 := Try.isAgg9
  z9 := Try.sizeOf9
  v9 := Try.zeroValue9
  t20 := Try.underlying20
  a20 := Try.isAgg20
  z20 := Try.sizeOf20
  v20 := Try.zeroValue20
  t37 := Try.underlying81
  a37 := Try.isAgg81
  z37 := Try.sizeOf81
  v37 := Try.zeroValue81
  t70 := Try.underlying80
  a70 := Try.isAgg80
  z70 := Try.sizeOf80
  v70 := Try.zeroValue80
  t72 := Try.underlying83
  a72 := Try.isAgg83
  z72 := Try.sizeOf83
  v72 := Try.zeroValue83
  t75 := Try.underlying89
  a75 := Try.isAgg89
  z75 := Try.sizeOf89
  v75 := Try.zeroValue89
  t164 := Try.underlying134
  a164 := Try.isAgg134
  z164 := Try.sizeOf134
  v164 := Try.zeroValue134 }
theorem shelfExtra6 : Go.Proofs.Builder.Extra Try.prog shelfRen6 := {
  sizeBuilder := by kernel_rfl
  liesBuilder := by kernel_rfl
  t5 := Try.underlying5
  a5 := Try.isAgg5
  z5 := Try.sizeOf5
  v5 := Try.zeroValue5
  infoByte := by kernel_rfl
  cellsByte := by kernel_rfl
  sizeByte := by kernel_rfl
  neB5 := by decide }
theorem writeByte_spec (B b : Nat) (bs : List Value) (c : Int) (w : World) (h : Lib.IsBuilder 83 5 B b bs w) (hlen : bs.length + 1 ≤ 140737488355328) (hBw : B ≤ w.heap.size) :
    Calls Try.prog 92 #[.pointer (some ⟨b, 0, none⟩), .int .u8 c] w fun e w' => e = .returned .nilIface ∧ (Lib.BuilderAt 83 5 B b (.pointer (some ⟨b, 0, none⟩)) (bs ++ [.int .u8 c]) w' ∧ Below B w w') := Go.Proofs.Any.Builder_WriteByte lays167 shelfExtra6 B b bs c w h hlen hBw

end Go.Proofs.Ytaepgjheknkojaa

namespace Go.Proofs.Ytaepgjheknkojaa
open Go.RowKit
set_option linter.unusedSimpArgs false
set_option linter.unusedVariables false

theorem writeK (B b : Nat) (bs : List Value) (s : ByteArray) (w : World) (h : Lib.IsBuilderF 83 5 B b bs w) (hlen : bs.length + s.size ≤ 140737488355328) (hBw : B ≤ w.heap.size) :
    Calls Try.prog 40 #[.pointer (some ⟨b, 0, none⟩), .string s] w fun e w' => e = .returned (.tuple #[.int .i64 s.size, .nilIface]) ∧ (Lib.BuilderAtF 83 5 B b (.pointer (some ⟨b, 0, none⟩)) (bs ++ Lib.strCells s) w' ∧ Below B w w' ∧ Lib.OthersKept 5 (some b) w w') := Go.Proofs.Any.Builder_WriteString_k lays166 shelfExtra B b bs s w h hlen hBw
theorem byteK (B b : Nat) (bs : List Value) (c : Int) (w : World) (h : Lib.IsBuilderF 83 5 B b bs w) (hlen : bs.length + 1 ≤ 140737488355328) (hBw : B ≤ w.heap.size) :
    Calls Try.prog 92 #[.pointer (some ⟨b, 0, none⟩), .int .u8 c] w fun e w' => e = .returned .nilIface ∧ (Lib.BuilderAtF 83 5 B b (.pointer (some ⟨b, 0, none⟩)) (bs ++ [.int .u8 c]) w' ∧ Below B w w' ∧ Lib.OthersKept 5 (some b) w w') := Go.Proofs.Any.Builder_WriteByte_k lays167 shelfExtra6 B b bs c w h hlen hBw
theorem stringK (B b : Nat) (l : List UInt8) (w : World) (h : Lib.IsBuilderF 83 5 B b (Lib.byteCells l) w) (hBw : B ≤ w.heap.size) :
    Calls Try.prog 42 #[.pointer (some ⟨b, 0, none⟩)] w fun e w' => e = .returned (.string ⟨l.toArray⟩) ∧ (Lib.IsBuilderF 83 5 B b (Lib.byteCells l) w' ∧ Below B w w' ∧ Lib.OthersKept 5 (some b) w w') := Go.Proofs.Any.Builder_String_any_k lays169 shelfExtra B b l w h hBw

def chunkL (z : Siz) (c : Chk) : List Nat := bytesOf c.id ++ bytesOf (toldT z c) ++ bytesOf c.body ++ (if hasPadB c then [c.pad.toNat] else [])
def layZ (z : Siz) (l : List Chk) : List Nat := l.flatMap (chunkL z)
theorem layZ_take (z : Siz) (l : List Chk) (k : Nat) (c : Chk) (h : l[k]? = some c) : layZ z (l.take (k + 1)) = layZ z (l.take k) ++ chunkL z c := by
  obtain ⟨hi, rfl⟩ := List.getElem?_eq_some_iff.1 h
  unfold layZ
  rw [List.take_succ_eq_append_getElem hi, List.flatMap_append]
  simp
theorem toT_size (n : Int) (big : Bool) : (toT n big).size ≤ 4 := by
  have h1 : (beT n 4).size ≤ 4 := by
    unfold beT
    split
    · rw [textOf_size, highL_length]
      decide
    · exact Nat.zero_le _
  have h2 : (leT n 4).size ≤ 4 := by
    unfold leT
    split
    · rw [textOf_size, lowL_length]
      decide
    · exact Nat.zero_le _
  unfold toT
  split
  · exact h1
  · exact h2
theorem idB_size (s : ByteArray) (h : idB s = true) : s.size = 4 := by
  unfold idB at h
  exact of_decide_eq_true (Bool.and_eq_true_iff.1 h).2
theorem chunkL_len (z : Siz) (c : Chk) (h : idB c.id = true) : (chunkL z c).length ≤ sizeC c := by
  unfold chunkL sizeC toldT
  have h1 := toT_size (toldN z c) z.big
  have h2 := idB_size _ h
  simp only [List.length_append, bytesOf_length]
  split <;> simp <;> omega
theorem layZ_len (z : Siz) (l : List Chk) (h : ∀ c ∈ l, idB c.id = true) : (layZ z l).length ≤ sizeL l := by
  unfold layZ sizeL
  induction l with
  | nil => simp
  | cons c t ih =>
    have h1 := chunkL_len z c (h c (List.mem_cons_self ..))
    have h2 := ih fun d hd => h d (List.mem_cons_of_mem _ hd)
    simp only [List.flatMap_cons, List.length_append, List.map_cons, List.sum_cons]
    omega
/-- lay's builder, and the sizes' box. -/
structure Wl (w0 : World) (z : Siz) (l : List Nat) (w : World) : Prop where
  zb : w.heap[w0.heap.size]? = some (.cells (sizC z) 119 (0, 0))
  bd : Lib.BuilderAtF 83 5 (w0.heap.size + 1) (w0.heap.size + 1) (.pointer (some ⟨w0.heap.size + 1, 0, none⟩)) (Lib.strCells (textOf l)) w
  below : Below w0.heap.size w0 w
section
variable {w0 w w' : World} {z : Siz} {l : List Nat}
theorem lt_of_block0 {w : World} {g : Nat} {o : Obj} (h : w.heap[g]? = some o) : g < w.heap.size := (Array.getElem?_eq_some_iff.1 h).1
theorem bf_lt {T e : TypeId} {B b : Nat} {p : Value} {bs : List Value} (h : Lib.BuilderAtF T e B b p bs w) : b < w.heap.size := by
  obtain ⟨_, v, h2, _⟩ := h
  exact lt_of_block h2
theorem bf_below {T e : TypeId} {B b : Nat} {p : Value} {bs : List Value} (h : Lib.BuilderAtF T e B b p bs w) (hB : Below w.heap.size w w') : Lib.BuilderAtF T e B b p bs w' := by
  obtain ⟨h1, v, h2, h3, h4⟩ := h
  refine ⟨h1, v, by rw [hB.block _ (lt_of_block h2)]; exact h2, ?_, h4⟩
  obtain ⟨h5, h6⟩ := h3
  refine ⟨h5, ?_⟩
  rcases h6 with h6 | ⟨g, cap, cur, fz, e1, e2, e3, e4⟩
  · exact Or.inl h6
  · exact Or.inr ⟨g, cap, cur, fz, e1, e2, (hB.block _ (lt_of_block0 e3)).trans e3, e4⟩
theorem Wl.next (h : Wl w0 z l w) (hB : Below w.heap.size w w') : Wl w0 z l w' :=
  ⟨by rw [hB.block _ (lt_of_block h.zb)]; exact h.zb, bf_below h.bd hB, h.below.trans (hB.mono h.below.size)⟩
theorem Wl.s (h : Wl w0 z l w) (j : Nat) (v : Value) (hv : (sizC z)[j]? = some v) : w.cell? ⟨w0.heap.size, j, none⟩ = some v := by rw [cell_of_row _ _ _ _ _ _ h.zb]; exact hv
theorem Wl.into (h : Wl w0 z l w) {m : List Nat} (hb : Lib.BuilderAtF 83 5 (w0.heap.size + 1) (w0.heap.size + 1) (.pointer (some ⟨w0.heap.size + 1, 0, none⟩)) (Lib.strCells (textOf m)) w') (hB : Below (w0.heap.size + 1) w w') : Wl w0 z m w' :=
  ⟨by rw [hB.block _ (Nat.lt_succ_self _)]; exact h.zb, hb, h.below.trans (hB.mono (Nat.le_succ _))⟩
theorem Wl.write (h : Wl w0 z l w) (s : ByteArray) (hl : l.length + s.size ≤ 140737488355328) :
    Calls Try.prog 40 #[.pointer (some ⟨w0.heap.size + 1, 0, none⟩), .string s] w fun e w' => e = .returned (.tuple #[.int .i64 s.size, .nilIface]) ∧ Hid (Wl w0 z (l ++ bytesOf s) w') ∧ Lib.OthersKept 5 (some (w0.heap.size + 1)) w w' := by
  refine (writeK _ _ _ s w (Or.inr h.bd) (by rw [strCells_len]; exact hl) (Nat.le_of_lt (bf_lt h.bd))).mono ?_
  rintro e w' ⟨rfl, h1, h2, h3⟩
  refine ⟨rfl, h.into (m := l ++ bytesOf s) ?_ h2, h3⟩
  rw [strCells_app, textOf_bytesOf]
  exact h1
theorem Wl.byte (h : Wl w0 z l w) (n : Nat) (hn : n < 256) (hl : l.length + 1 ≤ 140737488355328) :
    Calls Try.prog 92 #[.pointer (some ⟨w0.heap.size + 1, 0, none⟩), .int .u8 (n : Int)] w fun e w' => e = .returned .nilIface ∧ Hid (Wl w0 z (l ++ [n]) w') ∧ Lib.OthersKept 5 (some (w0.heap.size + 1)) w w' := by
  refine (byteK _ _ _ (n : Int) w (Or.inr h.bd) (by rw [strCells_len]; exact hl) (Nat.le_of_lt (bf_lt h.bd))).mono ?_
  rintro e w' ⟨rfl, h1, h2, h3⟩
  refine ⟨rfl, h.into (m := l ++ [n]) ?_ h2, h3⟩
  rw [strCells_app]
  have : Lib.strCells (textOf [n]) = [.int .u8 (n : Int)] := by
    rw [strCells_bytes, bytesOf_textOf [n] (by simp; exact hn)]
    rfl
  rw [this]
  exact h1
theorem Wl.string (h : Wl w0 z l w) : Calls Try.prog 42 #[.pointer (some ⟨w0.heap.size + 1, 0, none⟩)] w fun e w' => e = .returned (.string (textOf l)) ∧ Below w0.heap.size w0 w' := by
  have hs : Lib.strCells (textOf l) = Lib.byteCells (l.map fun b => UInt8.ofNat b) := by
    unfold Lib.strCells Lib.byteCells textOf
    simp
  have hb := h.bd
  rw [hs] at hb
  refine (stringK _ _ _ w (Or.inr hb) (Nat.le_of_lt (bf_lt h.bd))).mono ?_
  rintro e w' ⟨rfl, _, h2, _⟩
  exact ⟨rfl, h.below.trans (h2.mono (Nat.le_succ _))⟩
end

end Go.Proofs.Ytaepgjheknkojaa

namespace Go.Proofs.Ytaepgjheknkojaa
open Go.RowKit
set_option linter.unusedSimpArgs false
set_option linter.unusedVariables false

/-- The i-th number of a text, w bytes each. -/
def mOf (s : ByteArray) (w : Nat) (big : Bool) (i : Nat) : Nat := val (if big then bytesOf (s.extract (i * w) (i * w + w)) else (bytesOf (s.extract (i * w) (i * w + w))).reverse)
def decN (wd : Int) (uns : Bool) (m : Nat) : Int := if uns then (m : Int) - 2 ^ (wd.toNat - 1) else if 2 ^ (8 * nby wd - 1) ≤ (m : Int) then (m : Int) - 2 ^ (8 * nby wd) else m
def numI (s : ByteArray) (wd : Int) (big uns : Bool) (i : Nat) : Int := decN wd uns (mOf s (nby wd) big i)
/-- The planes behind the first i numbers. -/
def upL (s : ByteArray) (wd : Int) (big uns : Bool) (ch : Nat) : Nat → List (List Int)
  | 0 => List.replicate ch []
  | i + 1 => (upL s wd big uns ch i).set (i % ch) ((upL s wd big uns ch i).getD (i % ch) [] ++ [numI s wd big uns i])
theorem upL_length (s : ByteArray) (wd : Int) (big uns : Bool) (ch : Nat) : ∀ i, (upL s wd big uns ch i).length = ch
  | 0 => by simp [upL]
  | i + 1 => by rw [upL, List.length_set]; exact upL_length s wd big uns ch i
theorem upL_each (s : ByteArray) (wd : Int) (big uns : Bool) (ch : Nat) (hs : ∀ i, i < 10000000 → -9223372036854775808 ≤ numI s wd big uns i ∧ numI s wd big uns i ≤ 9223372036854775807) : ∀ i, i ≤ 10000000 → ∀ k, k < ch → ((upL s wd big uns ch i).getD k []).length ≤ i ∧ ∀ n ∈ (upL s wd big uns ch i).getD k [], -9223372036854775808 ≤ n ∧ n ≤ 9223372036854775807
  | 0, _, k, hk => by
    have e : (upL s wd big uns ch 0).getD k [] = [] := by simp [upL, List.getD_eq_getElem?_getD, hk]
    rw [e]
    exact ⟨Nat.le_refl _, fun n hn => by cases hn⟩
  | i + 1, hi, k, hk => by
    have hl := upL_length s wd big uns ch i
    rw [upL]
    by_cases e : i % ch = k
    · subst e
      rw [getD_set_eq _ _ _ _ (by omega)]
      obtain ⟨h1, h2⟩ := upL_each s wd big uns ch hs i (by omega) (i % ch) hk
      refine ⟨by rw [List.length_append, List.length_singleton]; omega, fun n hn => ?_⟩
      rcases List.mem_append.1 hn with hn | hn
      · exact h2 n hn
      · rw [List.mem_singleton] at hn
        rw [hn]
        exact hs i (by omega)
    · rw [getD_set_ne _ _ _ _ _ e]
      obtain ⟨h1, h2⟩ := upL_each s wd big uns ch hs i (by omega) k hk
      exact ⟨by omega, h2⟩

def uheadB (rate ch wd : Int) : Bool := decide (1 ≤ rate ∧ rate ≤ 655350 ∧ 1 ≤ ch ∧ ch ≤ 8 ∧ 4 ≤ wd ∧ wd ≤ 32)
/-- Unpack's error. -/
def unpE (s : ByteArray) (rate ch wd : Int) (big uns : Bool) : Int :=
  if uheadB rate ch wd then (if s.size % (nby wd * ch.toNat) = 0 then (if 1048576 < s.size / (nby wd * ch.toNat) then 5 else
    (if ∀ i, i < s.size / nby wd → sampB (numI s wd big uns i) wd = true then 0 else 2)) else 2) else 50
def unpP (s : ByteArray) (rate ch wd : Int) (big uns : Bool) : Pcm := if unpE s rate ch wd big uns = 0 then ⟨rate, ch, wd, upL s wd big uns ch.toNat (s.size / nby wd)⟩ else noP

/-- A PCM and an error are handed back, the PCM in new memory. -/
def Gives (w : World) (q : Pcm) (n : Int) (e : Ending) (w' : World) : Prop := ∃ ao' cap', e = .returned (.tuple #[pcmV q ao' cap', .int .i64 n]) ∧ RowsAt w' ao' q.pl ∧ Fresh w.heap.size w' ao' q.pl ∧ Below w.heap.size w w'
/-- The boxes of Unpack. -/
structure Un (w0 : World) (big uns : Bool) (w : World) : Prop where
  lay : w.heap[w0.heap.size]? = some (.cells #[.bool big, .bool uns] 52 (0, 0))
  res : w.heap[w0.heap.size + 1]? = some (.cells zeroP 24 (0, 0))
  below : Below w0.heap.size w0 w
theorem Un.new (w : World) (big uns : Bool) : Un w big uns ((w.alloc (.cells #[.bool big, .bool uns] 52)).alloc (.cells zeroP 24)) := by
  refine ⟨?_, ?_, ((Below.refl w.heap.size w).alloc (Nat.le_refl _) _).alloc (by simp) _⟩
  · rw [Below.heap_alloc _ _ _ (by simp)]
    exact heap_alloc_new _ _
  · have h := heap_alloc_new (w.alloc (.cells #[.bool big, .bool uns] 52)) (.cells zeroP 24)
    have e : (w.alloc (.cells #[.bool big, .bool uns] 52)).heap.size = w.heap.size + 1 := by simp
    rw [e] at h
    exact h
theorem Un.new0 (w : World) (big uns : Bool) : ((w.alloc (.cells #[.bool big, .bool uns] 52)).alloc (.cells zeroP 24)).heap.size = w.heap.size + 2 := by simp

end Go.Proofs.Ytaepgjheknkojaa

namespace Go.Proofs.Ytaepgjheknkojaa
open Go.RowKit
set_option linter.unusedSimpArgs false
set_option linter.unusedVariables false

theorem chunk {α : Type} (f : Nat → List α) (L : Nat) (hL : ∀ j, (f j).length = L) : ∀ n j, j < n → (((List.range n).flatMap f).drop (j * L)).take L = f j := by
  have hlen : ∀ n, ((List.range n).flatMap f).length = n * L := fun n => by
    induction n with
    | zero => simp
    | succ n ih => rw [List.range_succ, List.flatMap_append, List.length_append, ih, Nat.succ_mul]; simp [hL]
  intro n
  induction n with
  | zero => exact fun j hj => absurd hj (Nat.not_lt_zero _)
  | succ n ih =>
    intro j hj
    rw [List.range_succ, List.flatMap_append]
    by_cases e : j = n
    · subst e
      rw [List.drop_append_of_le_length (by rw [hlen]; exact Nat.le_refl _), List.drop_of_length_le (by rw [hlen]; exact Nat.le_refl _)]
      simp only [List.flatMap_cons, List.flatMap_nil, List.append_nil, List.nil_append]
      exact List.take_of_length_le (by rw [hL]; exact Nat.le_refl _)
    · have hjn : j < n := by omega
      have h1 : (j + 1) * L ≤ n * L := Nat.mul_le_mul_right _ (by omega)
      rw [Nat.succ_mul] at h1
      rw [List.drop_append_of_le_length (by rw [hlen]; omega), List.take_append_of_le_length (by rw [List.length_drop, hlen]; omega)]
      exact ih j hjn

/-- A sample's code, read. -/
theorem decN_codeN (wd : Int) (uns : Bool) (n : Int) (h4 : 4 ≤ wd) (h32 : wd ≤ 32) (hs : sampB n wd = true) : decN wd uns (codeN wd uns n).toNat = n := by
  obtain ⟨n1, n2, n3, n4⟩ := nby_range wd h4 h32
  obtain ⟨g1, g2, g3⟩ := codeN_fits wd uns n h4 h32 hs
  have hs' := of_decide_eq_true hs
  have hkw : (wd - 1).toNat = wd.toNat - 1 := by omega
  have hp : (2 : Nat) ^ (wd.toNat - 1) ≤ 2 ^ (8 * nby wd - 1) := Nat.pow_le_pow_right (by decide) (by omega)
  have hd : (2 : Nat) ^ (8 * nby wd) = 2 * 2 ^ (8 * nby wd - 1) := by
    rw [← Nat.pow_succ']
    congr 1
    omega
  rw [hkw, pow_eq] at hs'
  unfold decN
  have hc : ((codeN wd uns n).toNat : Int) = codeN wd uns n := by omega
  rw [hc]
  unfold codeN at *
  rw [hkw, pow_eq] at *
  rw [pow_eq (8 * nby wd), pow_eq (8 * nby wd - 1), hd] at *
  generalize (2 : Nat) ^ (wd.toNat - 1) = H at *
  generalize (2 : Nat) ^ (8 * nby wd - 1) = G at *
  cases uns
  · simp only [Bool.false_eq_true, if_false] at *
    split <;> split <;> omega
  · simp only [if_true] at *
    omega

theorem highL_low (m k : Nat) : (lowL m k).reverse = highL m k := by rw [← lowL_reverse, List.reverse_reverse]

/-- How many of the first i numbers stand in plane k. -/
def cntN (ch i k : Nat) : Nat := i / ch + (if k < i % ch then 1 else 0)
theorem cnt_succ (ch i k : Nat) (h0 : 0 < ch) (hk : k < ch) : cntN ch (i + 1) k = cntN ch i k + (if i % ch = k then 1 else 0) := by
  unfold cntN
  have h1 := Nat.div_add_mod i ch
  have h2 := Nat.div_add_mod (i + 1) ch
  have h3 := Nat.mod_lt i h0
  have h4 := Nat.mod_lt (i + 1) h0
  by_cases e : i % ch + 1 < ch
  · have e1 : (i + 1) / ch = i / ch := by
      rw [← h1]
      have : ch * (i / ch) + i % ch + 1 = ch * (i / ch) + (i % ch + 1) := by omega
      rw [this, Nat.mul_add_div h0, Nat.mul_add_div h0, Nat.div_eq_of_lt e, Nat.div_eq_of_lt h3]
    have e2 : (i + 1) % ch = i % ch + 1 := by rw [e1] at h2; omega
    rw [e1, e2]
    split <;> split <;> split <;> omega
  · have e0 : i % ch + 1 = ch := by omega
    have e1 : (i + 1) / ch = i / ch + 1 := by
      have : i + 1 = ch * (i / ch + 1) := by rw [Nat.mul_add, Nat.mul_one]; omega
      rw [this, Nat.mul_div_cancel_left _ h0]
    have e2 : (i + 1) % ch = 0 := by
      have : i + 1 = ch * (i / ch + 1) := by rw [Nat.mul_add, Nat.mul_one]; omega
      rw [this, Nat.mul_mod_right]
    rw [e1, e2]
    split <;> split <;> split <;> omega
/-- The planes, number by number. -/
theorem upL_at (s : ByteArray) (wd : Int) (big uns : Bool) (ch : Nat) (h0 : 0 < ch) : ∀ i k, k < ch → (upL s wd big uns ch i).getD k [] = (List.range (cntN ch i k)).map fun q => numI s wd big uns (q * ch + k)
  | 0, k, hk => by
    have e : cntN ch 0 k = 0 := by simp [cntN]
    rw [e]
    simp [upL, List.getD_eq_getElem?_getD, hk]
  | i + 1, k, hk => by
    have hl := upL_length s wd big uns ch i
    have ih := upL_at s wd big uns ch h0 i
    rw [upL, cnt_succ ch i k h0 hk]
    by_cases e : i % ch = k
    · have hc : cntN ch i k = i / ch := by
        unfold cntN
        rw [e, if_neg (Nat.lt_irrefl _), Nat.add_zero]
      have hik : i / ch * ch + k = i := by
        rw [← e]
        exact Nat.div_add_mod' i ch
      rw [if_pos e, e, getD_set_eq _ _ _ _ (by omega), ih k hk, hc, List.range_succ, List.map_append, List.map_singleton, hik]
    · rw [if_neg e, Nat.add_zero, getD_set_ne _ _ _ _ _ e]
      exact ih k hk
theorem upL_full (s : ByteArray) (wd : Int) (big uns : Bool) (ch n : Nat) (h0 : 0 < ch) (k : Nat) (hk : k < ch) : (upL s wd big uns ch (n * ch)).getD k [] = (List.range n).map fun q => numI s wd big uns (q * ch + k) := by
  rw [upL_at s wd big uns ch h0 _ k hk]
  have : cntN ch (n * ch) k = n := by
    unfold cntN
    rw [Nat.mul_div_cancel _ h0, Nat.mul_mod_left, if_neg (Nat.not_lt_zero _), Nat.add_zero]
  rw [this]

end Go.Proofs.Ytaepgjheknkojaa
