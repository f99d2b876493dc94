/- Own text: the walk of pagesOf. a builder of a call beside a row of texts. -/
import Derived.Test.YtjkamannjgcmiaaDoorG32x
import Derived.Test.YtjkamannjgcmiaaDoorQ5shelf
import Derived.Shelf.Strings.BuilderK
namespace Go.Proofs.YtjkamannjgcmiaaDoor
open Go.RowKit
set_option linter.unusedSimpArgs false
set_option linter.unusedVariables false

def qpOf (L : List SP) : List QP := L.map fun y => (y.1.p, y.2.1, y.2.2)
theorem sh_at {W : World} {v : Value} {L : List SP} {B : Nat} (ho : W.ownsRow B 74 6 v L.length (shsC L)) (i : Nat) (z : SP) (hz : L[i]? = some z) : ∃ g c, v = .slice (some ⟨g, 0, none⟩) L.length c ∧ ∀ wx, Below W.heap.size W wx → ∀ j u, (shC z.1 z.2.1 z.2.2)[j]? = some u → wx.cell? ⟨g, i * 6 + j, none⟩ = some u := by
  have hl := (List.getElem?_eq_some_iff.1 hz).1
  obtain ⟨g, c, e⟩ := owns_some ho (by omega)
  subst e
  refine ⟨g, c, rfl, fun wx hb j u hj => ?_⟩
  have hj6 : j < 6 := (List.getElem?_eq_some_iff.1 hj).1
  have h1 : W.cell? ⟨g, i * 6 + j, none⟩ = some u := by
    rw [ho.cellAt (i * 6 + j) (by omega)]
    exact shsC_at L i z hz j u hj
  rw [World.cell?_of_block (w := W) (hb.block g (lt_cell h1))]
  exact h1
theorem own_pages {w' : World} {B : Nat} {L : List SP} {v : Value} (ho : w'.ownsRow B 49 5 v L.length (qcs (qpOf L))) (hp : ∀ y ∈ L, PgAt w' y.1.p y.2.1 y.2.2) : ∃ ao cap, v = .slice ao L.length cap ∧ PgsAt w' ao (L.map fun y => y.1.p) ∧ L.length ≤ cap ∧ (ao = none → cap = 0) := by
  obtain ⟨ao, cap, e, _, hle, hno, hat⟩ := owns_shape ho
  refine ⟨ao, cap, e, ⟨fun h0 => ?_⟩, hle, fun q => (hno q).2⟩
  rw [List.length_map] at h0
  obtain ⟨g, c, e2⟩ := owns_some ho h0
  rw [e] at e2
  injection e2 with e3 e4 e5
  subst e3
  refine ⟨g, 0, rfl, fun i p hi => ?_⟩
  rw [List.getElem?_map] at hi
  have hil : i < L.length := by
    rcases Nat.lt_or_ge i L.length with h | h
    · exact h
    · rw [List.getElem?_eq_none h] at hi; cases hi
  have hy : L[i]? = some L[i] := List.getElem?_eq_getElem hil
  rw [hy] at hi
  injection hi with hi
  subst hi
  refine ⟨L[i].2.1, L[i].2.2, fun j u hj => ?_, hp _ (List.mem_of_getElem? hy)⟩
  have hj5 : j < 5 := (List.getElem?_eq_some_iff.1 hj).1
  rw [e] at ho
  rw [Nat.zero_add, ho.cellAt (i * 5 + j) (by omega)]
  exact qcs_get (qpOf L) i (L[i].1.p, L[i].2.1, L[i].2.2) (by unfold qpOf; rw [List.getElem?_map, hy]; rfl) j u hj
set_option maxRecDepth 20000 in
set_option maxHeartbeats 3200000 in
theorem j_pagesOf (w : World) (v : Value) (L : List SP) (h : ShsAt w v L) (hn : L.length ≤ 65536) : Calls Tryd.prog 24 #[v] w fun e w' => (∃ ao cap, e = .returned (.slice ao L.length cap) ∧ PgsAt w' ao (L.map fun y => y.1.p) ∧ L.length ≤ cap ∧ (ao = none → cap = 0)) ∧ Below w.heap.size w w' := by
  obtain ⟨B, ho, hp⟩ := h
  obtain ⟨av, cv, ev⟩ := owns_sl ho
  subst ev
  have HO := hid ho
  have HP := hid hp
  obtain ⟨iP, hP0, hP1, hP2, hP3⟩ := info_parts5 info_page4
  have HIP : Hid (Tryd.prog.info? 49 = some iP ∧ iP.zero = some (.agg zeroP) ∧ iP.size = 5 ∧ iP.bytes = 56) := ⟨hP0, hP1, hP2, hP3⟩
  have HS0 : Hid (w.ownsRow w.heap.size 49 5 noS 0 (qcs (qpOf (L.take 0)))) := World.ownsRow_nil _ _ _ _
  clear hP0 hP1 hP2 hP3 ho hp
  go_enter Tryd.func24, Tryd.ntmps24
  go_wp2_with fail
  go_loopw [3, 8] (fun s3 s8 wr => ∃ k : Nat, k ≤ L.length ∧ s8 = .int .i64 (k : Int) ∧ wr.ownsRow w.heap.size 49 5 s3 k (qcs (qpOf (L.take k))) ∧ Below w.heap.size w wr) (fun _ s8 _ => L.length - (intOf s8).toNat)
  case atStart => exact ⟨0, Nat.zero_le _, rfl, HS0.out, Below.refl _ _⟩
  case round =>
    obtain ⟨k, hk, rfl, hq, hb⟩ := hrel
    obtain ⟨a3, k3, e3⟩ := owns_sl hq
    subst e3
    have HQ := hid hq
    have HB := hid hb
    clear hq hb HS0
    by_cases hlt : k < L.length
    · obtain ⟨z, hz⟩ : ∃ z, L[k]? = some z := ⟨_, List.getElem?_eq_getElem hlt⟩
      obtain ⟨g, cg, eg, hc⟩ := sh_at HO.out k z hz
      injection eg with eg1 eg2 eg3
      subst eg1
      have hc := hc wr HB.out
      have HZ : Hid (qcs (qpOf (L.take (k + 1))) = qcs (qpOf (L.take k)) ++ pgC z.1.p z.2.1 z.2.2) := by
        show _ = _
        rw [List.take_add_one, hz]
        unfold qpOf
        rw [List.map_append]
        exact qcs_snoc _ _
      obtain ⟨⟨⟨fl, se, sq, gr, la⟩, bd⟩, ao, c⟩ := z
      dsimp only at *
      have c0 : wr.cell? ⟨g, k * 6, none⟩ = some (.int .i64 fl) := hc 0 _ rfl
      have c1 := hc 1 _ rfl
      have c2 := hc 2 _ rfl
      have c3 := hc 3 _ rfl
      have c4 := hc 4 _ rfl
      have c5 := hc 5 _ rfl
      have HX : Hid (Box (wr.alloc (.cells #[.int .i64 fl, .int .i64 se, .int .i64 sq, .int .i64 gr, .slice ao la.length c, .string bd] 74)) wr.heap.size #[.int .i64 fl, .int .i64 se, .int .i64 sq, .int .i64 gr, .slice ao la.length c, .string bd] 74 ∧ (wr.alloc (.cells #[.int .i64 fl, .int .i64 se, .int .i64 sq, .int .i64 gr, .slice ao la.length c, .string bd] 74)).ownsRow w.heap.size 49 5 (.slice a3 k k3) k (qcs (qpOf (L.take k))) ∧ Below w.heap.size w (wr.alloc (.cells #[.int .i64 fl, .int .i64 se, .int .i64 sq, .int .i64 gr, .slice ao la.length c, .string bd] 74))) := ⟨Box.new _ _ _, owns_below HQ.out (below_new _ _), below_on HB.out HB.out.size (below_new _ _)⟩
      clear hc hz eg2 eg3
      go_upto_region 5 with fail
      generalize wr.alloc (.cells #[.int .i64 fl, .int .i64 se, .int .i64 sq, .int .i64 gr, .slice ao la.length c, .string bd] 74) = wx at *
      have d0 := HX.out.1.c 0 _ rfl
      have d1 := HX.out.1.c 1 _ rfl
      have d2 := HX.out.1.c 2 _ rfl
      have d3 := HX.out.1.c 3 _ rfl
      have d4 := HX.out.1.c 4 _ rfl
      have HNW : Hid (∀ j u, ([.int .i64 fl, .int .i64 se, .int .i64 sq, .int .i64 gr, .slice ao la.length c] : List Value)[j]? = some u → (wx.alloc (.cells #[.int .i64 fl, .int .i64 se, .int .i64 sq, .int .i64 gr, .slice ao la.length c] 49)).cell? ((⟨wx.heap.size, 0, none⟩ : Addr).add j) = some u) := fun j u hj => by
        rw [Addr.add_mid, Nat.zero_add]
        exact (Box.new wx #[.int .i64 fl, .int .i64 se, .int .i64 sq, .int .i64 gr, .slice ao la.length c] 49).c j u (by rw [List.getElem?_toArray]; exact hj)
      clear c0 c1 c2 c3 c4 c5
      go_wp2_with (at_builtin; go_loud (refine wpList_append_row _ rfl (.tmp 12) (.tmp 15) 22 rfl w.heap.size 49 iP (.agg zeroP) 5 56 Tryd.underlying22 HIP.out.1 HIP.out.2.1 HIP.out.2.2.1 HIP.out.2.2.2 rfl (by decide) (.slice a3 k k3) k _ rfl (owns_below HX.out.2.1 (below_new _ _)) ⟨wx.heap.size, 0, none⟩ 1 1 [.int .i64 fl, .int .i64 se, .int .i64 sq, .int .i64 gr, .slice ao la.length c] rfl rfl HNW.out (by simp [Value.oneCell']) (by simp only [maxLen]; omega) (by omega) (by have := HX.out.2.2.size; rw [World.size_alloc]; omega) ?_); intro v6 w6 ho6 hg6 hx6)
      have H6 : Hid (w6.ownsRow w.heap.size 49 5 v6 (k + 1) (qcs (qpOf (L.take (k + 1)))) ∧ Below w.heap.size w w6) := ⟨by rw [HZ.out]; exact ho6.out, grown_to hg6.out (below_on HX.out.2.2 HX.out.2.2.size (below_new _ _)) (by have := HX.out.2.2.size; rw [World.size_alloc]; omega) (fun q e => (HX.out.2.1.lt q e).1)⟩
      clear ho6 hg6 hx6 d0 d1 d2 d3 d4
      try go_wp2_with fail
      go_roundw
      case rel => exact ⟨k + 1, by omega, by go_num, H6.out⟩
      case measure => simp [intOf]; omega
    · obtain rfl : k = L.length := by omega
      have hq2 := HQ.out
      rw [List.take_of_length_le (Nat.le_refl _)] at hq2
      have HF := hid (own_pages hq2 (fun y hy => (HP.out y hy).below HB.out))
      clear hq2
      go_wp2_with fail
      go_ret
      obtain ⟨ao, cap, e1, g1, g2, g3⟩ := HF.out
      exact ⟨⟨ao, cap, by rw [← e1]; rfl, g1, g2, g3⟩, HB.out⟩

end Go.Proofs.YtjkamannjgcmiaaDoor

namespace Go.Proofs.YtjkamannjgcmiaaDoor
open Go.RowKit
set_option linter.unusedSimpArgs false
set_option linter.unusedVariables false

theorem writeK (B b : Nat) (bs : List Value) (s : ByteArray) (w : World) (h : Lib.IsBuilderF 81 5 B b bs w) (hlen : bs.length + s.size ≤ 140737488355328) (hBw : B ≤ w.heap.size) :
    Calls Tryd.prog 38 #[.pointer (some ⟨b, 0, none⟩), .string s] w fun e w' => e = .returned (.tuple #[.int .i64 s.size, .nilIface]) ∧ (Lib.BuilderAtF 81 5 B b (.pointer (some ⟨b, 0, none⟩)) (bs ++ Lib.strCells s) w' ∧ Below B w w' ∧ Lib.OthersKept 5 (some b) w w') := Go.Proofs.Any.Builder_WriteString_k lays166 shelfExtra B b bs s w h hlen hBw
theorem stringK (B b : Nat) (l : List UInt8) (w : World) (h : Lib.IsBuilderF 81 5 B b (Lib.byteCells l) w) (hBw : B ≤ w.heap.size) :
    Calls Tryd.prog 39 #[.pointer (some ⟨b, 0, none⟩)] w fun e w' => e = .returned (.string ⟨l.toArray⟩) ∧ (Lib.IsBuilderF 81 5 B b (Lib.byteCells l) w' ∧ Below B w w' ∧ Lib.OthersKept 5 (some b) w w') := Go.Proofs.Any.Builder_String_any_k lays169 shelfExtra B b l w h hBw
theorem strCells_len (l : List Nat) : (Lib.strCells (textOf l)).length = l.length := by unfold Lib.strCells textOf; simp
theorem strCells_app (a b : List Nat) : Lib.strCells (textOf (a ++ b)) = Lib.strCells (textOf a) ++ Lib.strCells (textOf b) := by unfold Lib.strCells textOf; simp
/-- A builder that holds these bytes. -/
def BUI (B b : Nat) (l : List Nat) (w : World) : Prop := Lib.IsBuilderF 81 5 B b (Lib.strCells (textOf l)) w
section
variable {B b : Nat} {l : List Nat} {w w' : World}
theorem BUI.box (h : BUI B b l w) : B ≤ b ∧ ∃ C, w.heap[b]? = some (Obj.cells C 81 (0, 0)) := by
  rcases h with ⟨h1, v, h2, _⟩ | ⟨h1, v, h2, _⟩
  · exact ⟨h1, _, h2⟩
  · exact ⟨h1, _, h2⟩
theorem BUI.lt (h : BUI B b l w) : b < w.heap.size := by
  obtain ⟨_, C, h2⟩ := h.box
  exact lt_some h2
theorem bf_row {T e : TypeId} {p : Value} {bs : List Value} (h : Lib.BuilderAtF T e B b p bs w) (hb : w'.heap[b]? = w.heap[b]?) (hr : ∀ (g : Nat) cur fz, w.heap[g]? = some (Obj.cells cur e fz) → w'.heap[g]? = w.heap[g]?) : Lib.BuilderAtF T e B b p bs w' := by
  obtain ⟨h1, v, h2, h3, h4⟩ := h
  refine ⟨h1, v, by rw [hb]; exact h2, ?_, h4⟩
  obtain ⟨h5, h6⟩ := h3
  refine ⟨h5, ?_⟩
  rcases h6 with h6 | ⟨g, cap, cur, fz, e1, e2, e3, e4⟩
  · exact Or.inl h6
  · exact Or.inr ⟨g, cap, cur, fz, e1, e2, (hr g cur fz e3).trans e3, e4⟩
theorem BUI.row (h : BUI B b l w) (hb : w'.heap[b]? = w.heap[b]?) (hr : ∀ (g : Nat) cur fz, w.heap[g]? = some (Obj.cells cur 5 fz) → w'.heap[g]? = w.heap[g]?) : BUI B b l w' := by
  rcases h with h | h
  · exact Or.inl (bf_row h hb hr)
  · exact Or.inr (bf_row h hb hr)
theorem BUI.low (h : BUI B b l w) (hb : Below w.heap.size w w') : BUI B b l w' := h.row (hb.block _ h.lt) (fun g cur fz e => hb.block _ (lt_some e))
theorem BUI.new (w : World) (hB : B ≤ w.heap.size) : BUI B w.heap.size [] (w.alloc (.cells #[.pointer none, noS] 81)) := Or.inl ⟨hB, noS, heap_alloc_new _ _, ⟨by simp [Lib.strCells, textOf], Or.inl ⟨rfl, rfl⟩⟩, fun e => by cases e⟩
theorem BUI.write (h : BUI B b l w) (s : ByteArray) (hl : l.length + s.size ≤ 140737488355328) :
    Calls Tryd.prog 38 #[.pointer (some ⟨b, 0, none⟩), .string s] w fun e w' => e = .returned (.tuple #[.int .i64 s.size, .nilIface]) ∧ Hid (BUI B b (l ++ bytesOf s) w' ∧ Below B w w' ∧ Lib.OthersKept 5 (some b) w w') := by
  refine (writeK _ _ _ s w h (by rw [strCells_len]; exact hl) (Nat.le_trans h.box.1 (Nat.le_of_lt h.lt))).mono ?_
  rintro e w' ⟨rfl, h1, h2, h3⟩
  refine ⟨rfl, Or.inr ?_, h2, h3⟩
  rw [strCells_app, S2.textOf_bytesOf]
  exact h1
theorem BUI.string (h : BUI B b l w) : Calls Tryd.prog 39 #[.pointer (some ⟨b, 0, none⟩)] w fun e w' => e = .returned (.string (textOf l)) ∧ Hid (BUI B b l w' ∧ Below B w w' ∧ Lib.OthersKept 5 (some b) w w') := by
  have hs : Lib.strCells (textOf l) = Lib.byteCells (l.map fun b => UInt8.ofNat b) := by
    unfold Lib.strCells Lib.byteCells textOf
    simp
  have hb := h
  unfold BUI at hb
  rw [hs] at hb
  refine (stringK _ _ _ w hb (Nat.le_trans h.box.1 (Nat.le_of_lt h.lt))).mono ?_
  rintro e w' ⟨rfl, h1, h2, h3⟩
  exact ⟨rfl, by unfold BUI; rw [hs]; exact h1, h2, h3⟩
end
theorem kept_own {w w' : World} {b : Nat} {B : Nat} {e : TypeId} {size : Nat} {v : Value} {n : Nat} {xs : List Value} (h : w.ownsRow B e size v n xs) (hk : Lib.OthersKept 5 (some b) w w') (he : e ≠ 5) (hb : ∀ C fz, w.heap[b]? ≠ some (.cells C e fz)) : w'.ownsRow B e size v n xs := by
  refine ⟨h.1, ?_⟩
  rcases h.2 with hn | ⟨g, cap, cur, hv, hg, hgc, rest⟩
  · exact .inl hn
  · exact .inr ⟨g, cap, cur, hv, hg, hk g _ hgc (fun q => by injection q with q; subst q; exact hb _ _ hgc) (fun c fz q => by injection q with q1 q2 q3; exact he q2), rest⟩
set_option maxRecDepth 20000 in
set_option maxHeartbeats 1600000 in
theorem j_Reset {B b : Nat} {l : List Nat} {w : World} (h : BUI B b l w) : Calls Tryd.prog 40 #[.pointer (some ⟨b, 0, none⟩)] w fun e w' => e = .returned (.tuple #[]) ∧ BUI B b [] w' ∧ Below B w w' ∧ ∀ k, k ≠ b → w'.heap[k]? = w.heap[k]? := by
  have hbx : ∃ p v, Box w b #[p, v] 81 := by
    rcases h with ⟨h1, v, h2, _⟩ | ⟨h1, v, h2, _⟩
    · exact ⟨_, _, ⟨h2⟩⟩
    · exact ⟨_, _, ⟨h2⟩⟩
  have hB := h.box.1
  obtain ⟨p, v, hx⟩ := hbx
  have HX := hid hx
  have c0 := hx.c 0 _ rfl
  have c1 := hx.c 1 _ rfl
  have f0 := hx.fz 0
  have f1 := hx.fz 1
  have HF : Hid (BUI B b [] ((w.setCell ⟨b, 0, none⟩ (.pointer none)).setCell ⟨b, 1, none⟩ noS) ∧ Below B w ((w.setCell ⟨b, 0, none⟩ (.pointer none)).setCell ⟨b, 1, none⟩ noS) ∧ ∀ k, k ≠ b → ((w.setCell ⟨b, 0, none⟩ (.pointer none)).setCell ⟨b, 1, none⟩ noS).heap[k]? = w.heap[k]?) :=
    ⟨Or.inl ⟨hB, noS, ((hx.setc (j := 0) (.pointer none)).setc (j := 1) noS).h, ⟨by simp [Lib.strCells, textOf], Or.inl ⟨rfl, rfl⟩⟩, fun e => by cases e⟩, ((Below.refl _ _).setCell (p := ⟨b, 0, none⟩) hB _).setCell (p := ⟨b, 1, none⟩) hB _, fun k hk => (Below.heap_setCell _ _ _ _ hk).trans (Below.heap_setCell _ _ _ _ hk)⟩
  clear h hx
  go_enter Tryd.func40, Tryd.ntmps40
  go_wp2_with fail
  go_end0
  exact ⟨rfl, HF.out⟩
/-- Packets that were taken so far, beside the one that is open. -/
structure PkQ (w0 : World) (b : Nat) (w : World) (K : List ByteArray) (v : Value) (hd : ByteArray) : Prop where
  own : w.ownsRow w0.heap.size 9 1 v K.length (K.map .string)
  bu : BUI w0.heap.size b (bytesOf hd) w
  bl : Below w0.heap.size w0 w
section
variable {w0 w w' : World} {b : Nat} {K : List ByteArray} {v v' : Value} {hd : ByteArray}
theorem PkQ.low (h : PkQ w0 b w K v hd) (hb : Below w.heap.size w w') : PkQ w0 b w' K v hd := ⟨owns_below h.own hb, h.bu.low hb, h.bl.trans (hb.mono h.bl.size)⟩
theorem PkQ.ne (h : PkQ w0 b w K v hd) : ∀ C fz, w.heap[b]? ≠ some (.cells C 9 fz) := fun C fz e => by
  obtain ⟨_, C2, h2⟩ := h.bu.box
  rw [h2] at e
  injection e with e
  injection e with e1 e2 e3
  exact absurd e2 (by decide)
theorem PkQ.turn (h : PkQ w0 b w K v hd) {hd2 : ByteArray} (hn : BUI w0.heap.size b (bytesOf hd2) w' ∧ Below w0.heap.size w w' ∧ Lib.OthersKept 5 (some b) w w') : PkQ w0 b w' K v hd2 := ⟨kept_own h.own hn.2.2 (by decide) h.ne, hn.1, h.bl.trans hn.2.1⟩
theorem PkQ.reset (h : PkQ w0 b w K v hd) {hd2 : ByteArray} (hn : BUI w0.heap.size b (bytesOf hd2) w' ∧ Below w0.heap.size w w' ∧ ∀ k, k ≠ b → w'.heap[k]? = w.heap[k]?) : PkQ w0 b w' K v hd2 := by
  refine ⟨⟨h.own.1, ?_⟩, hn.1, h.bl.trans hn.2.1⟩
  rcases h.own.2 with hz | ⟨g, cap, cur, hv, hg, hgc, rest⟩
  · exact .inl hz
  · exact .inr ⟨g, cap, cur, hv, hg, (hn.2.2 g (fun q => by subst q; exact h.ne _ _ hgc)).trans hgc, rest⟩
theorem PkQ.push (h : PkQ w0 b w K v hd) {x : ByteArray} (ho : w'.ownsRow w0.heap.size 9 1 v' (K.length + 1) (K.map Value.string ++ [.string x])) (hg : w.grownBy w' v.ownBlock) : PkQ w0 b w' (K ++ [x]) v' hd := by
  have hk : ∀ g, g < w.heap.size → (∀ cur fz, w.heap[g]? ≠ some (.cells cur 9 fz)) → w'.heap[g]? = w.heap[g]? := fun g hl hn => hg.block g hl (fun e => by
    rcases h.own.2 with ⟨rfl, _⟩ | ⟨g2, cap, cur, rfl, _, hgc, _⟩
    · cases e
    · obtain rfl : g = g2 := by simpa [Value.ownBlock] using e
      exact hn _ _ hgc)
  refine ⟨by rw [List.length_append, List.map_append]; exact ho, h.bu.row (hk b h.bu.lt h.ne) (fun g cur fz e => hk g (lt_some e) (fun c2 f2 e2 => ?_)), grown_to hg h.bl h.bl.size (fun k e => (h.own.lt k e).1)⟩
  rw [e] at e2
  injection e2 with e2
  injection e2 with e3 e4 e5
  exact absurd e4 (by decide)
end

end Go.Proofs.YtjkamannjgcmiaaDoor
