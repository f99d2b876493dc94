/- Own text: the walk of Build. -/
import Derived.Test.YtfmpiidnemhijaaDoorQ13build
import Derived.Test.YtfmpiidnemhijaaDoorQ5shelf
import Derived.Shelf.Strings.BuilderK
namespace Go.Proofs.YtfmpiidnemhijaaDoor
open Go.RowKit
set_option linter.unusedSimpArgs false
set_option linter.unusedVariables false

theorem writeK (B b : Nat) (bs : List Value) (s : ByteArray) (w : World) (h : Lib.IsBuilderF 79 5 B b bs w) (hlen : bs.length + s.size ≤ 140737488355328) (hBw : B ≤ w.heap.size) :
    Calls Tryd.prog 37 #[.pointer (some ⟨b, 0, none⟩), .string s] w fun e w' => e = .returned (.tuple #[.int .i64 s.size, .nilIface]) ∧ (Lib.BuilderAtF 79 5 B b (.pointer (some ⟨b, 0, none⟩)) (bs ++ Lib.strCells s) w' ∧ Below B w w' ∧ Lib.OthersKept 5 (some b) w w') := Go.Proofs.Any.Builder_WriteString_k lays166 shelfExtra B b bs s w h hlen hBw
theorem stringK (B b : Nat) (l : List UInt8) (w : World) (h : Lib.IsBuilderF 79 5 B b (Lib.byteCells l) w) (hBw : B ≤ w.heap.size) :
    Calls Tryd.prog 39 #[.pointer (some ⟨b, 0, none⟩)] w fun e w' => e = .returned (.string ⟨l.toArray⟩) ∧ (Lib.IsBuilderF 79 5 B b (Lib.byteCells l) w' ∧ Below B w w' ∧ Lib.OthersKept 5 (some b) w w') := Go.Proofs.Any.Builder_String_any_k lays169 shelfExtra B b l w h hBw
theorem strCells_len (l : List Nat) : (Lib.strCells (textOf l)).length = l.length := by unfold Lib.strCells textOf; simp
theorem strCells_app (a b : List Nat) : Lib.strCells (textOf (a ++ b)) = Lib.strCells (textOf a) ++ Lib.strCells (textOf b) := by unfold Lib.strCells textOf; simp
/-- A call's own builder. -/
structure Bl (w0 : World) (l : List Nat) (w : World) : Prop where
  bd : Lib.BuilderAtF 79 5 w0.heap.size w0.heap.size (.pointer (some ⟨w0.heap.size, 0, none⟩)) (Lib.strCells (textOf l)) w
  below : Below w0.heap.size w0 w
section
variable {w0 w w' : World} {l : List Nat}
theorem lt_of_block0 {w : World} {g : Nat} {o : Obj} (h : w.heap[g]? = some o) : g < w.heap.size := (Array.getElem?_eq_some_iff.1 h).1
theorem bf_lt {T e : TypeId} {B b : Nat} {p : Value} {bs : List Value} (h : Lib.BuilderAtF T e B b p bs w) : b < w.heap.size := by
  obtain ⟨_, v, h2, _⟩ := h
  exact lt_of_block h2
theorem bf_below {T e : TypeId} {B b : Nat} {p : Value} {bs : List Value} (h : Lib.BuilderAtF T e B b p bs w) (hB : Below w.heap.size w w') : Lib.BuilderAtF T e B b p bs w' := by
  obtain ⟨h1, v, h2, h3, h4⟩ := h
  refine ⟨h1, v, by rw [hB.block _ (lt_of_block h2)]; exact h2, ?_, h4⟩
  obtain ⟨h5, h6⟩ := h3
  refine ⟨h5, ?_⟩
  rcases h6 with h6 | ⟨g, cap, cur, fz, e1, e2, e3, e4⟩
  · exact Or.inl h6
  · exact Or.inr ⟨g, cap, cur, fz, e1, e2, (hB.block _ (lt_of_block0 e3)).trans e3, e4⟩
theorem Bl.next (h : Bl w0 l w) (hB : Below w.heap.size w w') : Bl w0 l w' := ⟨bf_below h.bd hB, h.below.trans (hB.mono h.below.size)⟩
theorem Bl.write (h : Bl w0 l w) (s : ByteArray) (m : List Nat) (hm : bytesOf s = m) (hl : l.length + s.size ≤ 140737488355328) :
    Calls Tryd.prog 37 #[.pointer (some ⟨w0.heap.size, 0, none⟩), .string s] w fun e w' => e = .returned (.tuple #[.int .i64 s.size, .nilIface]) ∧ Hid (Bl w0 (l ++ m) w') ∧ Hid (Lib.OthersKept 5 (some w0.heap.size) w w') := by
  refine (writeK _ _ _ s w (Or.inr h.bd) (by rw [strCells_len]; exact hl) (Nat.le_of_lt (bf_lt h.bd))).mono ?_
  rintro e w' ⟨rfl, h1, h2, h3⟩
  refine ⟨rfl, ⟨?_, h.below.trans h2⟩, h3⟩
  rw [strCells_app, ← hm, S2.textOf_bytesOf]
  exact h1
theorem Bl.string (h : Bl w0 l w) : Calls Tryd.prog 39 #[.pointer (some ⟨w0.heap.size, 0, none⟩)] w fun e w' => e = .returned (.string (textOf l)) ∧ Below w0.heap.size w0 w' := by
  have hs : Lib.strCells (textOf l) = Lib.byteCells (l.map fun b => UInt8.ofNat b) := by
    unfold Lib.strCells Lib.byteCells textOf
    simp
  have hb := h.bd
  rw [hs] at hb
  refine (stringK _ _ _ w (Or.inr hb) (Nat.le_of_lt (bf_lt h.bd))).mono ?_
  rintro e w' ⟨rfl, _, h2, _⟩
  exact ⟨rfl, h.below.trans h2⟩
theorem kept_box {S Q : Nat} {d : Array Value} {T : TypeId} (h : w.heap[Q]? = some (.cells d T (0, 0))) (hk : Lib.OthersKept 5 (some S) w w') (hne : Q ≠ S) (hT : T ≠ 5) : w'.heap[Q]? = some (.cells d T (0, 0)) :=
  hk Q _ h (fun q => hne (by simpa using q)) (fun c fz e => by
    have : T = 5 := by injection e
    exact hT this)
theorem keptB {Q : Nat} {d : Array Value} {T : TypeId} (h : w.heap[Q]? = some (.cells d T (0, 0))) (hB : Below w.heap.size w w') : w'.heap[Q]? = some (.cells d T (0, 0)) := (hB.block _ (lt_of_block h)).trans h
end
/-- What is laid behind so many blocks. -/
def layU (l : List Blk) (k : Nat) : List Nat := if k < l.length then layQ (l.take k) else layL l
theorem layU_step (l : List Blk) (k : Nat) (b : Blk) (h : l[k]? = some b) : layU l (k + 1) = layU l k ++ (hedL b (decide (k + 1 = l.length)) ++ bytesOf b.body) := by
  obtain ⟨hi, rfl⟩ := List.getElem?_eq_some_iff.1 h
  unfold layU
  rw [if_pos hi]
  by_cases e : k + 1 = l.length
  · rw [if_neg (by omega), decide_eq_true e]
    have hx : l.take k ++ [l[k]] = l := by
      rw [← List.take_succ_eq_append_getElem hi, List.take_of_length_le (by omega)]
    conv => lhs; rw [← hx]
    rw [layL_snoc]
    rfl
  · rw [if_pos (by omega), decide_eq_false e, List.take_succ_eq_append_getElem hi, layQ_snoc]
    rfl
theorem layU_zero (l : List Blk) : layU l 0 = [] := by
  unfold layU
  split
  · rfl
  · have : l = [] := List.eq_nil_of_length_eq_zero (by omega)
    rw [this]
    rfl
theorem layU_last (l : List Blk) : layU l l.length = layL l := by
  unfold layU
  rw [if_neg (by omega)]
theorem layU_len (l : List Blk) : ∀ k, k ≤ l.length → (layU l k).length = sizL (l.take k)
  | 0, _ => by rw [layU_zero]; rfl
  | k + 1, h => by
    obtain ⟨b, hb⟩ : ∃ b, l[k]? = some b := ⟨_, List.getElem?_eq_getElem h⟩
    rw [layU_step l k b hb, sizL_take l k b hb, List.length_append, List.length_append, layU_len l k (by omega), hedL_length, bytesOf_length]
def BldE (l : List Blk) (e : Ending) : Prop := (mayS l = true ∧ e = .returned (.tuple #[.string (textOf (layL l)), .int .i64 0])) ∨ (mayS l = false ∧ e = .returned (.tuple #[.string ⟨#[]⟩, .int .i64 60]))
set_option maxRecDepth 20000 in
set_option maxHeartbeats 3200000 in
theorem build_any (l : List Blk) (ao : Option Addr) (cap : Nat) (w : World) (hl : BlksAt w ao l) (hs : ∀ b ∈ l, b.body.size ≤ 140737488351232) (hll : l.length ≤ 9000000000000000) (hW : WidAt w) :
    Calls Tryd.prog 18 #[.slice ao l.length cap] w fun e w' => BldE l e ∧ Below w.heap.size w w' := by
  have km := mayStand_any l ao cap w hl hs hll hW
  cases hm : mayS l
  · have HE : Hid (mayS l = false) := hm
    rw [hm] at km
    clear hm hs hl hW
    go_enter Tryd.func18, Tryd.ntmps18
    go_wp2_with fail
    refine km.mono ?_
    rintro e w1 ⟨rfl, hb1⟩
    clear km
    go_wp2_with fail
    go_ret2
    exact ⟨.inr ⟨HE.out, rfl⟩, hb1⟩
  · have HE : Hid (mayS l = true) := hm
    rw [hm] at km
    have hlen := (mayS_mem hm).1
    have hl0 := (mayS_mem hm).2
    have HST : Hid (∀ b ∈ l, 0 ≤ b.ty ∧ b.ty ≤ 126 ∧ b.body.size ≤ 16777215 ∧ chkE b = 0) := std_mem l 0 false (Bool.and_eq_true_iff.1 hm).1
    have HL : Hid (BlksAt w ao l) := hl
    have hsz := sizL_le l 16777215 fun b hb => (HST.out b hb).2.2.1
    have hsz2 : sizL l ≤ 20000000000 := Nat.le_trans hsz (Nat.le_trans (Nat.mul_le_mul_right _ hlen) (by decide))
    have KS : Hid (∀ wx, Below w.heap.size w wx → Calls Tryd.prog 36 #[.slice ao l.length cap] wx fun e w' => e = .returned (.int .i64 (sizL l : Int)) ∧ Below wx.heap.size wx w') := fun wx hb => sizeOf_any l ao cap wx (hl.below hb) (fun b hb => (HST.out b hb).2.2.1) hlen
    clear hm hs hl hW hsz
    go_enter Tryd.func18, Tryd.ntmps18
    go_wp2_with fail
    refine km.mono ?_
    rintro e w1 ⟨rfl, hb1⟩
    have HB1 : Hid (Below w.heap.size w w1) := hb1
    clear km hb1
    have HB1a : Hid (Below w.heap.size w (w1.alloc (.cells #[.pointer none, .slice none 0 0] 79)) ∧ (w1.alloc (.cells #[.pointer none, .slice none 0 0] 79)).heap[w1.heap.size]? = some (.cells #[.pointer none, .slice none 0 0] 79 (0, 0))) := ⟨HB1.out.alloc HB1.out.size _, heap_alloc_new _ _⟩
    go_wp2_with fail
    refine (KS.out _ HB1a.out.1).mono ?_
    rintro e w2 ⟨rfl, hb2⟩
    have HB2 : Hid (Below w1.heap.size w1 w2 ∧ w2.heap[w1.heap.size]? = some (.cells #[.pointer none, .slice none 0 0] 79 (0, 0))) := ⟨((Below.refl _ _).alloc (Nat.le_refl _) _).trans (hb2.mono (by simp)), keptB HB1a.out.2 hb2⟩
    have kg := grow_spec w1.heap.size w1.heap.size (sizL l) w2 (Nat.le_refl _) HB2.out.2 (Nat.le_of_lt (lt_of_block HB2.out.2)) (by omega)
    clear hb2 HB1a KS
    go_wp2_with fail
    refine kg.mono ?_
    rintro e w3 ⟨rfl, hb3, hB3⟩
    have HBL3 : Hid (Bl w1 [] w3) := ⟨Lib.BuilderAtF.of hb3, HB2.out.1.trans hB3⟩
    clear kg hb3 hB3 HB2
    go_wp2_with fail
    go_loopw [16] (fun t wr => ∃ k : Nat, k ≤ l.length ∧ t = .int .i64 (k : Int) ∧ Bl w1 (layU l k) wr) (fun t _ => l.length - (intOf t).toNat)
    case atStart => exact ⟨0, Nat.zero_le _, rfl, by rw [layU_zero]; exact HBL3.out⟩
    case round =>
      clear HBL3
      obtain ⟨k, hk, rfl, hbl⟩ := hrel
      have HBL : Hid (Bl w1 (layU l k) wr) := hbl
      clear hbl
      by_cases hlt : k < l.length
      · obtain ⟨b, hb⟩ : ∃ b, l[k]? = some b := ⟨_, List.getElem?_eq_getElem hlt⟩
        obtain ⟨g, off, rfl, hcl⟩ := HL.out.at k b hb
        obtain ⟨x0, x1⟩ := hcl wr (HB1.out.trans (HBL.out.below.mono HB1.out.size))
        obtain ⟨y0, y1, y2, _⟩ := HST.out b (List.mem_of_getElem? hb)
        have HNX : Hid (layU l (k + 1) = layU l k ++ (hedL b (decide (k + 1 = l.length)) ++ bytesOf b.body)) := layU_step l k b hb
        have hlu : (layU l k).length ≤ 20000000000 := by
          rw [layU_len l k hk]
          have h1 := sizL_le (l.take k) 16777215 fun b hb => (HST.out b (List.mem_of_mem_take hb)).2.2.1
          have h2 : (l.take k).length ≤ 1024 := by rw [List.length_take]; omega
          exact Nat.le_trans h1 (Nat.le_trans (Nat.mul_le_mul_right _ h2) (by decide))
        have hlast : ((k : Int) == (l.length : Int) - 1) = decide (k + 1 = l.length) := by
          rw [Bool.eq_iff_iff, beq_iff_eq, decide_eq_true_iff]
          omega
        have hwl : wrap64 ((l.length : Int) - 1) = (l.length : Int) - 1 := by unfold wrap64; omega
        have kh := fun wx => head_any b (decide (k + 1 = l.length)) y0 y1 y2 wx
        generalize decide (k + 1 = l.length) = lst at *
        have hz := hedL_length b lst
        have KW1 : Hid (∀ wx, Bl w1 (layU l k) wx → Calls Tryd.prog 37 #[.pointer (some ⟨w1.heap.size, 0, none⟩), .string (textOf (hedL b lst))] wx fun e w' => e = .returned (.tuple #[.int .i64 (textOf (hedL b lst)).size, .nilIface]) ∧ Hid (Bl w1 (layU l k ++ hedL b lst) w') ∧ Hid (Lib.OthersKept 5 (some w1.heap.size) wx w')) := fun wx h => h.write _ (hedL b lst) (S2.bytesOf_textOf _ (fun x hx => pceL_256 lst y0 y1 x (List.mem_append.2 (.inl hx)))) (by rw [S2.textOf_size]; omega)
        have KW2 : Hid (∀ wx, Bl w1 (layU l k ++ hedL b lst) wx → Calls Tryd.prog 37 #[.pointer (some ⟨w1.heap.size, 0, none⟩), .string b.body] wx fun e w' => e = .returned (.tuple #[.int .i64 b.body.size, .nilIface]) ∧ Hid (Bl w1 (layU l k ++ hedL b lst ++ bytesOf b.body) w') ∧ Hid (Lib.OthersKept 5 (some w1.heap.size) wx w')) := fun wx h => h.write _ _ rfl (by rw [List.length_append]; omega)
        have HQ : Hid ((wr.alloc (.cells (blkC b) 36)).heap[wr.heap.size]? = some (.cells (blkC b) 36 (0, 0)) ∧ w1.heap.size < wr.heap.size ∧ Bl w1 (layU l k) (wr.alloc (.cells (blkC b) 36))) := ⟨heap_alloc_new _ _, bf_lt HBL.out.bd, HBL.out.next ((Below.refl _ _).alloc (Nat.le_refl _) _)⟩
        generalize textOf (hedL b lst) = TT at *
        clear hcl hb HBL hz hlu
        go_wp2_with fail
        generalize World.alloc wr _ = wa at *
        generalize wr.heap.size = q at *
        refine (kh wa).mono ?_
        rintro e w4 ⟨rfl, hb4⟩
        have HQ4 : Hid (w4.heap[q]? = some (.cells (blkC b) 36 (0, 0)) ∧ w1.heap.size < q ∧ Bl w1 (layU l k) w4) := ⟨keptB HQ.out.1 hb4, HQ.out.2.1, HQ.out.2.2.next hb4⟩
        clear hb4 HQ kh x0 x1
        go_wp2_with fail
        refine (KW1.out _ HQ4.out.2.2).mono ?_
        rintro e w5 ⟨rfl, h5, hk5⟩
        have HQ5 : Hid (w5.heap[q]? = some (.cells (blkC b) 36 (0, 0))) := kept_box HQ4.out.1 hk5.out (by have := HQ4.out.2.1; omega) (by decide)
        have c1 := (blk_cells HQ5.out).2
        clear HQ4 KW1 hk5
        go_wp2_with fail
        refine (KW2.out _ h5.out).mono ?_
        rintro e w6 ⟨rfl, h6, hk6⟩
        have H6 : Hid (Bl w1 (layU l (k + 1)) w6) := by
          rw [HNX.out, ← List.append_assoc]
          exact h6.out
        clear h5 h6 hk6 KW2 c1 HQ5 HNX
        go_wp2_with fail
        go_roundw
        case rel => exact ⟨k + 1, by omega, by go_num, H6.out⟩
        case measure => simp [intOf]; omega
      · have hkl : k = l.length := by omega
        have H6 : Hid (Bl w1 (layL l) wr) := by
          have := HBL.out
          rw [hkl, layU_last] at this
          exact this
        have k6 := H6.out.string
        clear hkl HBL
        go_wp2_with fail
        refine k6.mono ?_
        rintro e w7 ⟨rfl, h7⟩
        clear k6
        go_wp2_with fail
        go_ret2
        exact ⟨.inl ⟨HE.out, rfl⟩, HB1.out.trans (h7.mono HB1.out.size)⟩

end Go.Proofs.YtfmpiidnemhijaaDoor
