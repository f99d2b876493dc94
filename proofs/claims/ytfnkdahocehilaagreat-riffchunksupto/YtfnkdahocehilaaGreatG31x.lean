/- Own text: (*strings.Builder).WriteByte, by the library's promise. lay's builder. the walk of lay. -/
import Derived.Test.YtfnkdahocehilaaGreatQ5shelf
import Derived.Test.YtfnkdahocehilaaGreatG30x
import Derived.Test.YtfnkdahocehilaaGreatG15x
import Derived.Shelf.Strings.BuilderK
namespace Go.Proofs.YtfnkdahocehilaaGreat
open Go.RowKit
set_option linter.unusedSimpArgs false
set_option linter.unusedVariables false

open Go.Shelf
def shelfRen6 : Go.Shelf.Ren := ⟨fun | 165 => 52 | 166 => 53 | 167 => 56 | 169 => 57 | 240 => 85 | 241 => 86 | 276 => 108 | 277 => 109 | n => n, fun | 0 => 0 | 3 => 3 | 4 => 4 | 5 => 5 | 9 => 9 | 20 => 20 | 37 => 62 | 70 => 100 | 72 => 102 | 164 => 147 | 75 => 105 | 80 => 89 | 127 => 136 | n => n, fun | n => n⟩
theorem lays167 : Go.Proofs.Lays.n167 Tryz.prog shelfRen6 := {
  mixed := by kernel_rfl
  f167 := Tryz.func56.trans (congrArg some (by kernel_rfl))
  f240 := Tryz.func85.trans (congrArg some (by kernel_rfl))
  f276 := Tryz.func108.trans (congrArg some (by kernel_rfl))
  t0 := Tryz.underlying0
  a0 := Tryz.isAgg0
  z0 := Tryz.sizeOf0
  v0 := Tryz.zeroValue0
  t4 := Tryz.underlying4
  a4 := Tryz.isAgg4
  z4 := Tryz.sizeOf4
  v4 := Tryz.zeroValue4
  t5 := Tryz.underlying5
  a5 := Tryz.isAgg5
  z5 := Tryz.sizeOf5
  v5 := Tryz.zeroValue5
  t9 := Tryz.underlying9
  a9 := Tryz.isAgg9
  z9 := Tryz.sizeOf9
  v9 := Tryz.zeroValue9
  t20 := Tryz.underlying20
  a20 := Tryz.isAgg20
  z20 := Tryz.sizeOf20
  v20 := Tryz.zeroValue20
  t37 := Tryz.underlying62
  a37 := Tryz.isAgg62
  z37 := Tryz.sizeOf62
  v37 := Tryz.zeroValue62
  t70 := Tryz.underlying100
  a70 := Tryz.isAgg100
  z70 := Tryz.sizeOf100
  v70 := Tryz.zeroValue100
  t72 := Tryz.underlying102
  a72 := Tryz.isAgg102
  z72 := Tryz.sizeOf102
  v72 := Tryz.zeroValue102
  t75 := Tryz.underlying105
  a75 := Tryz.isAgg105
  z75 := Tryz.sizeOf105
  v75 := Tryz.zeroValue105
  t164 := Tryz.underlying147
  a164 := Tryz.isAgg147
  z164 := Tryz.sizeOf147
  v164 := Tryz.zeroValue147 }
theorem shelfExtra6 : Go.Proofs.Builder.Extra Tryz.prog shelfRen6 := {
  sizeBuilder := by kernel_rfl
  liesBuilder := by kernel_rfl
  t5 := Tryz.underlying5
  a5 := Tryz.isAgg5
  z5 := Tryz.sizeOf5
  v5 := Tryz.zeroValue5
  infoByte := by kernel_rfl
  cellsByte := by kernel_rfl
  sizeByte := by kernel_rfl
  neB5 := by decide }
theorem writeByte_spec (B b : Nat) (bs : List Value) (c : Int) (w : World) (h : Lib.IsBuilder 102 5 B b bs w) (hlen : bs.length + 1 ≤ 140737488355328) (hBw : B ≤ w.heap.size) :
    Calls Tryz.prog 56 #[.pointer (some ⟨b, 0, none⟩), .int .u8 c] w fun e w' => e = .returned .nilIface ∧ (Lib.BuilderAt 102 5 B b (.pointer (some ⟨b, 0, none⟩)) (bs ++ [.int .u8 c]) w' ∧ Below B w w') := Go.Proofs.Any.Builder_WriteByte lays167 shelfExtra6 B b bs c w h hlen hBw

end Go.Proofs.YtfnkdahocehilaaGreat

namespace Go.Proofs.YtfnkdahocehilaaGreat
open Go.RowKit
set_option linter.unusedSimpArgs false
set_option linter.unusedVariables false

theorem writeK (B b : Nat) (bs : List Value) (s : ByteArray) (w : World) (h : Lib.IsBuilderF 102 5 B b bs w) (hlen : bs.length + s.size ≤ 140737488355328) (hBw : B ≤ w.heap.size) :
    Calls Tryz.prog 53 #[.pointer (some ⟨b, 0, none⟩), .string s] w fun e w' => e = .returned (.tuple #[.int .i64 s.size, .nilIface]) ∧ (Lib.BuilderAtF 102 5 B b (.pointer (some ⟨b, 0, none⟩)) (bs ++ Lib.strCells s) w' ∧ Below B w w' ∧ Lib.OthersKept 5 (some b) w w') := Go.Proofs.Any.Builder_WriteString_k lays166 shelfExtra B b bs s w h hlen hBw
theorem byteK (B b : Nat) (bs : List Value) (c : Int) (w : World) (h : Lib.IsBuilderF 102 5 B b bs w) (hlen : bs.length + 1 ≤ 140737488355328) (hBw : B ≤ w.heap.size) :
    Calls Tryz.prog 56 #[.pointer (some ⟨b, 0, none⟩), .int .u8 c] w fun e w' => e = .returned .nilIface ∧ (Lib.BuilderAtF 102 5 B b (.pointer (some ⟨b, 0, none⟩)) (bs ++ [.int .u8 c]) w' ∧ Below B w w' ∧ Lib.OthersKept 5 (some b) w w') := Go.Proofs.Any.Builder_WriteByte_k lays167 shelfExtra6 B b bs c w h hlen hBw
theorem stringK (B b : Nat) (l : List UInt8) (w : World) (h : Lib.IsBuilderF 102 5 B b (Lib.byteCells l) w) (hBw : B ≤ w.heap.size) :
    Calls Tryz.prog 57 #[.pointer (some ⟨b, 0, none⟩)] w fun e w' => e = .returned (.string ⟨l.toArray⟩) ∧ (Lib.IsBuilderF 102 5 B b (Lib.byteCells l) w' ∧ Below B w w' ∧ Lib.OthersKept 5 (some b) w w') := Go.Proofs.Any.Builder_String_any_k lays169 shelfExtra B b l w h hBw

def chunkL (z : Siz) (c : Chk) : List Nat := bytesOf c.id ++ bytesOf (toldT z c) ++ bytesOf c.body ++ (if hasPadB c then [c.pad.toNat] else [])
def layZ (z : Siz) (l : List Chk) : List Nat := l.flatMap (chunkL z)
theorem layZ_take (z : Siz) (l : List Chk) (k : Nat) (c : Chk) (h : l[k]? = some c) : layZ z (l.take (k + 1)) = layZ z (l.take k) ++ chunkL z c := by
  obtain ⟨hi, rfl⟩ := List.getElem?_eq_some_iff.1 h
  unfold layZ
  rw [List.take_succ_eq_append_getElem hi, List.flatMap_append]
  simp
theorem toT_size (n : Int) (big : Bool) : (toT n big).size ≤ 4 := by
  have h1 : (beT n 4).size ≤ 4 := by
    unfold beT
    split
    · rw [textOf_size, highL_length]
      decide
    · exact Nat.zero_le _
  have h2 : (leT n 4).size ≤ 4 := by
    unfold leT
    split
    · rw [textOf_size, lowL_length]
      decide
    · exact Nat.zero_le _
  unfold toT
  split
  · exact h1
  · exact h2
theorem idB_size (s : ByteArray) (h : idB s = true) : s.size = 4 := by
  unfold idB at h
  exact of_decide_eq_true (Bool.and_eq_true_iff.1 h).2
theorem chunkL_len (z : Siz) (c : Chk) (h : idB c.id = true) : (chunkL z c).length ≤ sizeC c := by
  unfold chunkL sizeC toldT
  have h1 := toT_size (toldN z c) z.big
  have h2 := idB_size _ h
  simp only [List.length_append, bytesOf_length]
  split <;> simp <;> omega
theorem layZ_len (z : Siz) (l : List Chk) (h : ∀ c ∈ l, idB c.id = true) : (layZ z l).length ≤ sizeL l := by
  unfold layZ sizeL
  induction l with
  | nil => simp
  | cons c t ih =>
    have h1 := chunkL_len z c (h c (List.mem_cons_self ..))
    have h2 := ih fun d hd => h d (List.mem_cons_of_mem _ hd)
    simp only [List.flatMap_cons, List.length_append, List.map_cons, List.sum_cons]
    omega
/-- lay's builder, and the sizes' box. -/
structure Wl (w0 : World) (z : Siz) (l : List Nat) (w : World) : Prop where
  zb : w.heap[w0.heap.size]? = some (.cells (sizC z) 55 (0, 0))
  bd : Lib.BuilderAtF 102 5 (w0.heap.size + 1) (w0.heap.size + 1) (.pointer (some ⟨w0.heap.size + 1, 0, none⟩)) (Lib.strCells (textOf l)) w
  below : Below w0.heap.size w0 w
section
variable {w0 w w' : World} {z : Siz} {l : List Nat}
theorem lt_of_block0 {w : World} {g : Nat} {o : Obj} (h : w.heap[g]? = some o) : g < w.heap.size := (Array.getElem?_eq_some_iff.1 h).1
theorem bf_lt {T e : TypeId} {B b : Nat} {p : Value} {bs : List Value} (h : Lib.BuilderAtF T e B b p bs w) : b < w.heap.size := by
  obtain ⟨_, v, h2, _⟩ := h
  exact lt_of_block h2
theorem bf_below {T e : TypeId} {B b : Nat} {p : Value} {bs : List Value} (h : Lib.BuilderAtF T e B b p bs w) (hB : Below w.heap.size w w') : Lib.BuilderAtF T e B b p bs w' := by
  obtain ⟨h1, v, h2, h3, h4⟩ := h
  refine ⟨h1, v, by rw [hB.block _ (lt_of_block h2)]; exact h2, ?_, h4⟩
  obtain ⟨h5, h6⟩ := h3
  refine ⟨h5, ?_⟩
  rcases h6 with h6 | ⟨g, cap, cur, fz, e1, e2, e3, e4⟩
  · exact Or.inl h6
  · exact Or.inr ⟨g, cap, cur, fz, e1, e2, (hB.block _ (lt_of_block0 e3)).trans e3, e4⟩
theorem Wl.next (h : Wl w0 z l w) (hB : Below w.heap.size w w') : Wl w0 z l w' :=
  ⟨by rw [hB.block _ (lt_of_block h.zb)]; exact h.zb, bf_below h.bd hB, h.below.trans (hB.mono h.below.size)⟩
theorem Wl.s (h : Wl w0 z l w) (j : Nat) (v : Value) (hv : (sizC z)[j]? = some v) : w.cell? ⟨w0.heap.size, j, none⟩ = some v := by rw [cell_of_row _ _ _ _ _ _ h.zb]; exact hv
theorem Wl.into (h : Wl w0 z l w) {m : List Nat} (hb : Lib.BuilderAtF 102 5 (w0.heap.size + 1) (w0.heap.size + 1) (.pointer (some ⟨w0.heap.size + 1, 0, none⟩)) (Lib.strCells (textOf m)) w') (hB : Below (w0.heap.size + 1) w w') : Wl w0 z m w' :=
  ⟨by rw [hB.block _ (Nat.lt_succ_self _)]; exact h.zb, hb, h.below.trans (hB.mono (Nat.le_succ _))⟩
theorem Wl.write (h : Wl w0 z l w) (s : ByteArray) (hl : l.length + s.size ≤ 140737488355328) :
    Calls Tryz.prog 53 #[.pointer (some ⟨w0.heap.size + 1, 0, none⟩), .string s] w fun e w' => e = .returned (.tuple #[.int .i64 s.size, .nilIface]) ∧ Hid (Wl w0 z (l ++ bytesOf s) w') ∧ Lib.OthersKept 5 (some (w0.heap.size + 1)) w w' := by
  refine (writeK _ _ _ s w (Or.inr h.bd) (by rw [strCells_len]; exact hl) (Nat.le_of_lt (bf_lt h.bd))).mono ?_
  rintro e w' ⟨rfl, h1, h2, h3⟩
  refine ⟨rfl, h.into (m := l ++ bytesOf s) ?_ h2, h3⟩
  rw [strCells_app, textOf_bytesOf]
  exact h1
theorem Wl.byte (h : Wl w0 z l w) (n : Nat) (hn : n < 256) (hl : l.length + 1 ≤ 140737488355328) :
    Calls Tryz.prog 56 #[.pointer (some ⟨w0.heap.size + 1, 0, none⟩), .int .u8 (n : Int)] w fun e w' => e = .returned .nilIface ∧ Hid (Wl w0 z (l ++ [n]) w') ∧ Lib.OthersKept 5 (some (w0.heap.size + 1)) w w' := by
  refine (byteK _ _ _ (n : Int) w (Or.inr h.bd) (by rw [strCells_len]; exact hl) (Nat.le_of_lt (bf_lt h.bd))).mono ?_
  rintro e w' ⟨rfl, h1, h2, h3⟩
  refine ⟨rfl, h.into (m := l ++ [n]) ?_ h2, h3⟩
  rw [strCells_app]
  have : Lib.strCells (textOf [n]) = [.int .u8 (n : Int)] := by
    rw [strCells_bytes, bytesOf_textOf [n] (by simp; exact hn)]
    rfl
  rw [this]
  exact h1
theorem Wl.string (h : Wl w0 z l w) : Calls Tryz.prog 57 #[.pointer (some ⟨w0.heap.size + 1, 0, none⟩)] w fun e w' => e = .returned (.string (textOf l)) ∧ Below w0.heap.size w0 w' := by
  have hs : Lib.strCells (textOf l) = Lib.byteCells (l.map fun b => UInt8.ofNat b) := by
    unfold Lib.strCells Lib.byteCells textOf
    simp
  have hb := h.bd
  rw [hs] at hb
  refine (stringK _ _ _ w (Or.inr hb) (Nat.le_of_lt (bf_lt h.bd))).mono ?_
  rintro e w' ⟨rfl, _, h2, _⟩
  exact ⟨rfl, h.below.trans (h2.mono (Nat.le_succ _))⟩
end

end Go.Proofs.YtfnkdahocehilaaGreat

namespace Go.Proofs.YtfnkdahocehilaaGreat
open Go.RowKit
set_option linter.unusedSimpArgs false
set_option linter.unusedVariables false

theorem kept_box {w w' : World} {S Q : Nat} {d : Array Value} {T : TypeId} (h : w.heap[Q]? = some (.cells d T (0, 0))) (hk : Lib.OthersKept 5 (some S) w w') (hne : Q ≠ S) (hT : T ≠ 5) : w'.heap[Q]? = some (.cells d T (0, 0)) :=
  hk Q _ h (fun q => hne (by simpa using q)) (fun c fz e => by
    have : T = 5 := by injection e
    exact hT this)
theorem below_box {w w' : World} {Q : Nat} {d : Array Value} {T : TypeId} (h : w.heap[Q]? = some (.cells d T (0, 0))) (hB : Below w.heap.size w w') : w'.heap[Q]? = some (.cells d T (0, 0)) := (hB.block _ (lt_of_block h)).trans h

theorem pad_range (c : Chk) (last : Bool) (h : layOk c last = true) (hp : hasPadB c = true) : 0 ≤ c.pad ∧ c.pad ≤ 255 := by
  rw [layOk_eq] at h
  obtain ⟨_, h⟩ := Bool.and_eq_true_iff.1 h
  unfold hasPadB at hp
  obtain ⟨ho, hn⟩ := Bool.and_eq_true_iff.1 hp
  rw [padOk_some c last ho (by simpa using hn)] at h
  obtain ⟨h1, h2⟩ := Bool.and_eq_true_iff.1 h
  exact ⟨of_decide_eq_true h1, of_decide_eq_true h2⟩
set_option maxRecDepth 20000 in
set_option maxHeartbeats 6400000 in
theorem lay_spec (z : Siz) (ah : ByteArray) (l : List Chk) (ao : Option Addr) (cap : Nat) (w : World) (hl : ChksAt w ao l) (hf : FairL l) (hst : standB l = true) (hsz : ah.size + sizeL l ≤ 140737488355328) :
    Calls Tryz.prog 24 #[.agg (sizC z), .string ah, .slice ao l.length cap] w fun e w' => e = .returned (.string (textOf (bytesOf ah ++ layZ z l))) ∧ Below w.heap.size w w' := by
  have hll : l.length ≤ 1024 := of_decide_eq_true (Bool.and_eq_true_iff.1 hst).1
  have HOK : Hid (∀ (i : Nat) (c : Chk), l[i]? = some c → layOk c (decide (i + 1 = l.length)) = true) := (layAll_iff l).1 (Bool.and_eq_true_iff.1 hst).2
  have HID : Hid (∀ c ∈ l, idB c.id = true) := fun c hc => by
    obtain ⟨i, hi⟩ := List.mem_iff_getElem?.1 hc
    have := HOK.out i c hi
    rw [layOk_eq] at this
    exact (Bool.and_eq_true_iff.1 this).1
  have HL : Hid (ChksAt w ao l) := hl
  have HF : Hid (FairL l) := hf
  have HLT : Hid (∀ k, (layZ z (l.take k)).length ≤ sizeL (l.take k)) := fun k => layZ_len z _ fun c hc => HID.out c (List.mem_of_mem_take hc)
  have hB0 : Below w.heap.size w ((w.alloc (.cells (sizC z) 55)).alloc (.cells #[.pointer none, .slice none 0 0] 102)) := ((Below.refl _ _).alloc (Nat.le_refl _) _).alloc (by simp) _
  have HB0 : Hid (Below w.heap.size w ((w.alloc (.cells (sizC z) 55)).alloc (.cells #[.pointer none, .slice none 0 0] 102)) ∧ ((w.alloc (.cells (sizC z) 55)).alloc (.cells #[.pointer none, .slice none 0 0] 102)).heap[w.heap.size]? = some (.cells (sizC z) 55 (0, 0)) ∧ ((w.alloc (.cells (sizC z) 55)).alloc (.cells #[.pointer none, .slice none 0 0] 102)).heap[w.heap.size + 1]? = some (.cells #[.pointer none, .slice none 0 0] 102 (0, 0))) := by
    refine ⟨hB0, ?_, ?_⟩
    · exact (((Below.refl _ _).alloc (Nat.le_refl _) _).block _ (by simp)).trans (heap_alloc_new w _)
    · rw [← show (w.alloc (.cells (sizC z) 55)).heap.size = w.heap.size + 1 from by simp]
      exact heap_alloc_new _ _
  have ks := sizeOf_spec l ao cap ((w.alloc (.cells (sizC z) 55)).alloc (.cells #[.pointer none, .slice none 0 0] 102)) (hl.below hB0) (by omega) (by omega)
  have HSI : Hid ((ah.size : Int) + (sizeL l : Int) = ((ah.size + sizeL l : Nat) : Int)) := by show _ = _; omega
  have HSZ : Hid (ah.size + sizeL l ≤ 140737488355328) := hsz
  clear hl hf hst hB0
  go_enter Tryz.func24, Tryz.ntmps24
  go_wp2_with fail
  refine ks.mono ?_
  rintro e w2 ⟨rfl, hB2⟩
  have H2 : Hid (Below w.heap.size w w2 ∧ w2.heap[w.heap.size]? = some (.cells (sizC z) 55 (0, 0)) ∧ w2.heap[w.heap.size + 1]? = some (.cells #[.pointer none, .slice none 0 0] 102 (0, 0))) :=
    ⟨HB0.out.1.trans (hB2.mono HB0.out.1.size), below_box HB0.out.2.1 hB2, below_box HB0.out.2.2 hB2⟩
  have kg := grow_spec (w.heap.size + 1) (w.heap.size + 1) (ah.size + sizeL l) w2 (Nat.le_refl _) H2.out.2.2 (Nat.le_of_lt (lt_of_block H2.out.2.2)) (by omega)
  clear ks hB2 HB0
  go_wp2_with fail
  rw [HSI.out]
  refine kg.mono ?_
  rintro e w3 ⟨rfl, hb3, hB3⟩
  have H3 : Hid (Wl w z [] w3) := ⟨by rw [hB3.block _ (Nat.lt_succ_self _)]; exact H2.out.2.1, Lib.BuilderAtF.of hb3, H2.out.1.trans (hB3.mono (Nat.le_succ _))⟩
  have kw := H3.out.write ah (by simp; omega)
  clear kg hb3 hB3 H2
  go_wp2_with fail
  refine kw.mono ?_
  rintro e w4 ⟨rfl, h4, _⟩
  clear kw H3
  go_wp2_with fail
  go_loopw [20] (fun t wr => ∃ k : Nat, k ≤ l.length ∧ t = .int .i64 (k : Int) ∧ Wl w z (bytesOf ah ++ layZ z (l.take k)) wr) (fun t _ => l.length - (intOf t).toNat)
  case atStart => exact ⟨0, Nat.zero_le _, rfl, by simpa [layZ] using h4.out⟩
  case round =>
    clear h4
    obtain ⟨k, hk, rfl, hW⟩ := hrel
    have HW : Hid (Wl w z (bytesOf ah ++ layZ z (l.take k)) wr) := hW
    clear hW
    by_cases hlt : k < l.length
    · obtain ⟨c, hc⟩ : ∃ c, l[k]? = some c := ⟨_, List.getElem?_eq_getElem hlt⟩
      have hcm : c ∈ l := List.mem_of_getElem? hc
      obtain ⟨b, off, rfl, hcl⟩ := HL.out.at k c hc
      obtain ⟨x0, x1, x2⟩ := hcl wr HW.out.below
      have HST : Hid (bytesOf ah ++ layZ z (l.take (k + 1)) = bytesOf ah ++ layZ z (l.take k) ++ (bytesOf c.id ++ bytesOf (toldT z c) ++ bytesOf c.body ++ (if hasPadB c then [c.pad.toNat] else []))) := by
        show _ = _
        rw [layZ_take z l k c hc, List.append_assoc]
        rfl
      have HLE : Hid ((bytesOf ah ++ layZ z (l.take k)).length + (8 + c.body.size + (if hasPadB c then 1 else 0)) ≤ 140737488355328) := by
        have h1 := HLT.out k
        have h2 := sizeL_take l k c hc
        have h3 := sizeL_le l (k + 1)
        have h4 := HSZ.out
        have h5 : sizeC c = 8 + c.body.size + (if hasPadB c then 1 else 0) := rfl
        show _ ≤ _
        rw [List.length_append, bytesOf_length, ← h5]
        omega
      have HFC := HF.out c hcm
      have hid4 := idB_size _ (HID.out c hcm)
      have htl : (toldT z c).size ≤ 4 := toT_size (toldN z c) z.big
      have hok := HOK.out k c hc
      have kt := told_spec z c HFC.2
      have kp := hasPad_spec c
      have HPD : Hid (hasPadB c = true → 0 ≤ c.pad ∧ c.pad ≤ 255) := fun q => pad_range c _ hok q
      have HQa : Hid ((wr.alloc (.cells (chkC c) 52)).heap[wr.heap.size]? = some (.cells (chkC c) 52 (0, 0)) ∧ w.heap.size + 1 < wr.heap.size) := ⟨heap_alloc_new wr _, bf_lt HW.out.bd⟩
      have HWa : Hid (Wl w z (bytesOf ah ++ layZ z (l.take k)) (wr.alloc (.cells (chkC c) 52))) := HW.out.next ((Below.refl _ _).alloc (Nat.le_refl _) _)
      have hle0 : (bytesOf ah ++ layZ z (l.take k)).length + 8 + c.body.size ≤ 140737488355328 := by have := HLE.out; omega
      have HLX : Hid (l.take (k + 1) = l.take (k + 1)) := rfl
      clear hcl hc hcm HFC hok HW
      generalize toldT z c = TT at *
      generalize bytesOf ah ++ layZ z (l.take k) = LL at *
      have k1 := HWa.out.write c.id (by omega)
      go_wp2_with fail
      generalize wr.alloc (.cells (chkC c) 52) = wa at *
      generalize wr.heap.size = Q at *
      refine k1.mono ?_
      rintro e w5 ⟨rfl, h5, hk5⟩
      have HQ5 : Hid (w5.heap[Q]? = some (.cells (chkC c) 52 (0, 0)) ∧ w.heap.size + 1 < Q) := ⟨kept_box HQa.out.1 hk5 (by have := HQa.out.2; omega) (by decide), HQa.out.2⟩
      have s0 := h5.out.s 0 _ rfl
      have s1 := h5.out.s 1 _ rfl
      have s2 := h5.out.s 2 _ rfl
      have d0 : w5.cell? ⟨Q, 0, none⟩ = some (.string c.id) := by rw [cell_of_row _ _ _ _ _ _ HQ5.out.1]; rfl
      have d1 : w5.cell? ⟨Q, 1, none⟩ = some (.string c.body) := by rw [cell_of_row _ _ _ _ _ _ HQ5.out.1]; rfl
      have d2 : w5.cell? ⟨Q, 2, none⟩ = some (.int .i64 c.pad) := by rw [cell_of_row _ _ _ _ _ _ HQ5.out.1]; rfl
      clear k1 hk5 HWa HQa x0 x1 x2
      go_wp2_with fail
      refine (kt w5).mono ?_
      rintro e w6 ⟨rfl, hB6⟩
      have H6 : Hid (Wl w z (LL ++ bytesOf c.id) w6) := h5.out.next hB6
      have HQ6 : Hid (w6.heap[Q]? = some (.cells (chkC c) 52 (0, 0)) ∧ w.heap.size + 1 < Q) := ⟨below_box HQ5.out.1 hB6, HQ5.out.2⟩
      have k2 := H6.out.write TT (by rw [List.length_append, bytesOf_length]; omega)
      clear kt hB6 h5 HQ5 s0 s1 s2 d0 d1 d2
      go_wp2_with fail
      refine k2.mono ?_
      rintro e w7 ⟨rfl, h7, hk7⟩
      have HQ7 : Hid (w7.heap[Q]? = some (.cells (chkC c) 52 (0, 0)) ∧ w.heap.size + 1 < Q) := ⟨kept_box HQ6.out.1 hk7 (by have := HQ6.out.2; omega) (by decide), HQ6.out.2⟩
      have k3 := h7.out.write c.body (by rw [List.length_append, List.length_append, bytesOf_length, bytesOf_length]; omega)
      have d0 : w7.cell? ⟨Q, 0, none⟩ = some (.string c.id) := by rw [cell_of_row _ _ _ _ _ _ HQ7.out.1]; rfl
      have d1 : w7.cell? ⟨Q, 1, none⟩ = some (.string c.body) := by rw [cell_of_row _ _ _ _ _ _ HQ7.out.1]; rfl
      have d2 : w7.cell? ⟨Q, 2, none⟩ = some (.int .i64 c.pad) := by rw [cell_of_row _ _ _ _ _ _ HQ7.out.1]; rfl
      clear k2 hk7 H6 HQ6
      go_wp2_with fail
      refine k3.mono ?_
      rintro e w8 ⟨rfl, h8, hk8⟩
      have HQ8 : Hid (w8.heap[Q]? = some (.cells (chkC c) 52 (0, 0)) ∧ w.heap.size + 1 < Q) := ⟨kept_box HQ7.out.1 hk8 (by have := HQ7.out.2; omega) (by decide), HQ7.out.2⟩
      clear k3 hk8 h7 HQ7 d0 d1 d2
      have d0 : w8.cell? ⟨Q, 0, none⟩ = some (.string c.id) := by rw [cell_of_row _ _ _ _ _ _ HQ8.out.1]; rfl
      have d1 : w8.cell? ⟨Q, 1, none⟩ = some (.string c.body) := by rw [cell_of_row _ _ _ _ _ _ HQ8.out.1]; rfl
      have d2 : w8.cell? ⟨Q, 2, none⟩ = some (.int .i64 c.pad) := by rw [cell_of_row _ _ _ _ _ _ HQ8.out.1]; rfl
      cases hpb : hasPadB c
      · rw [hpb] at kp HST
        have HN : Hid (Wl w z (LL ++ bytesOf c.id ++ bytesOf TT ++ bytesOf c.body) w8) := h8
        clear HPD h8 HLE
        go_wp2_with fail
        refine (kp w8).mono ?_
        rintro e w9 ⟨rfl, hB9⟩
        have H9 : Hid (Wl w z (LL ++ bytesOf c.id ++ bytesOf TT ++ bytesOf c.body) w9) := HN.out.next hB9
        clear kp hB9 HN HQ8 d0 d1 d2
        go_wp2_with fail
        go_roundw
        case rel => exact ⟨k + 1, by omega, by go_num, by rw [HST.out]; simpa using H9.out⟩
        case measure => simp [intOf]; omega
      · rw [hpb] at kp HST HLE
        obtain ⟨hp0, hp1⟩ := HPD.out hpb
        obtain ⟨pn, hpn⟩ : ∃ pn : Nat, c.pad = (pn : Int) := ⟨c.pad.toNat, by omega⟩
        have HPN : Hid (c.pad.toNat = pn ∧ pn < 256) := ⟨by omega, by omega⟩
        have hpl : (pn : Int) ≤ 255 := by omega
        have HD2 : Hid (c.pad = (pn : Int)) := hpn
        have hle1 : LL.length + 8 + c.body.size + 1 ≤ 140737488355328 := by have := HLE.out; simp at this; omega
        have HN : Hid (Wl w z (LL ++ bytesOf c.id ++ bytesOf TT ++ bytesOf c.body) w8) := h8
        clear HPD h8 HLE hpn hp0 hp1
        go_wp2_with fail
        refine (kp w8).mono ?_
        rintro e w9 ⟨rfl, hB9⟩
        have H9 : Hid (Wl w z (LL ++ bytesOf c.id ++ bytesOf TT ++ bytesOf c.body) w9) := HN.out.next hB9
        have HQ9 : Hid (w9.heap[Q]? = some (.cells (chkC c) 52 (0, 0))) := below_box HQ8.out.1 hB9
        have k5 := H9.out.byte pn HPN.out.2 (by simp only [List.length_append, bytesOf_length]; omega)
        clear kp hB9 HN HQ8 d0 d1 d2
        have d2 : w9.cell? ⟨Q, 2, none⟩ = some (.int .i64 (pn : Int)) := by rw [cell_of_row _ _ _ _ _ _ HQ9.out, ← HD2.out]; rfl
        go_wp2_with fail
        refine k5.mono ?_
        rintro e w10 ⟨rfl, h10, _⟩
        clear k5 d2
        go_wp2_with fail
        go_roundw
        case rel => exact ⟨k + 1, by omega, by go_num, by rw [HST.out, HPN.out.1]; simpa using h10.out⟩
        case measure => simp [intOf]; omega
    · have hke : k = l.length := by omega
      subst hke
      rw [List.take_length] at HW
      have kst := HW.out.string
      go_wp2_with fail
      refine kst.mono ?_
      rintro e w9 ⟨rfl, hB9⟩
      have HB9 : Hid (Below w.heap.size w w9) := hB9
      clear kst hB9
      go_wp2_with fail
      go_ret
      exact ⟨rfl, HB9.out⟩

end Go.Proofs.YtfnkdahocehilaaGreat
