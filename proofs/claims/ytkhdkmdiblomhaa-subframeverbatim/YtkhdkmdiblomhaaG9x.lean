/- Own text: the walks of the program's writeHead. the walk of the program's writePart. -/
import Derived.Test.YtkhdkmdiblomhaaG8x
namespace Go.Proofs.Ytkhdkmdiblomhaa
open Go.RowKit
set_option linter.unusedSimpArgs false
set_option linter.unusedVariables false

def Apart (p : Nat) (ao xo : Option Addr) (l : List Int) : Prop := 0 < l.length → ∀ b, blockOf xo = some b → ¬ foot p ao b
theorem IntsAt.none_ {w w' : World} {xo : Option Addr} {l : List Int} (h : IntsAt w xo l) (h0 : ¬ 0 < l.length) : IntsAt w' xo l := ⟨h.len, h.num, fun hh => absurd hh h0⟩
theorem Apart.moved {p : Nat} {ao aj xo : Option Addr} {l : List Int} {w : World} (ha : Apart p ao xo l) (hx : IntsAt w xo l) (hm : Moved w.heap.size ao aj) : Apart p aj xo l := fun h0 b hb hf => by
  rcases hf with hf | hf
  · exact ha h0 b hb (Or.inl hf)
  · rcases hm b hf with h1 | h1
    · exact ha h0 b hb (Or.inr h1)
    · obtain ⟨bb, off, rfl, hc⟩ := hx.lies h0
      have hbb : bb = b := by simpa [blockOf] using hb
      have h2 : bb < w.heap.size := lt_cell (hc 0 h0)
      omega
theorem Apart.part {p : Nat} {ao lo xo : Option Addr} {l X : List Int} (ha : Apart p ao lo l) (hx : ∀ b, blockOf xo = some b → blockOf lo = some b) (hl : 0 < X.length → 0 < l.length) : Apart p ao xo X := fun h0 b hb => ha (hl h0) b (hx b hb)
/-- A walk that writes at p: what was there ahead stays but for the writer; boxes of its own below K stay too. -/
structure WB (w : World) (p : Nat) (ao0 ao : Option Addr) (B : List Nat) (K : Nat) (wx : World) : Prop where
  wr : WrB wx p ao B
  st : Stays (foot p ao0) w wx
  mv : Moved w.heap.size ao0 ao
  hp : p < w.heap.size
  nb : ∀ b, blockOf ao = some b → ¬ (w.heap.size ≤ b ∧ b < K)
  kk : K ≤ wx.heap.size
section
variable {w wx w' : World} {p : Nat} {ao0 ao ao' : Option Addr} {B B' : List Nat} {K : Nat}
theorem WB.start (hw : WrB w p ao B) (hb : Below w.heap.size w wx) (K : Nat) (hK : K ≤ wx.heap.size) : WB w p ao ao B K wx :=
  ⟨hw.below hb, Stays.of_below hb _, Moved.refl _ _, hw.lt, fun b hb' h => by have := hw.blocks b hb'; omega, hK⟩
theorem WB.low (h : WB w p ao0 ao B K wx) (hb : Below wx.heap.size wx w') : WB w p ao0 ao B K w' :=
  ⟨h.wr.below hb, h.st.trans (Stays.of_below hb (foot p ao0)) (fun _ _ h => h), h.mv, h.hp, h.nb, Nat.le_trans h.kk hb.size⟩
theorem WB.drewN (h : WB w p ao0 ao B K wx) (n : Nat) : WB w p ao0 ao B K (wx.drewN n) := h.low (below_drewN _ _)
theorem WB.put (h : WB w p ao0 ao B K wx) (hw : WrB w' p ao' B') (hS : Stays (foot p ao) wx w') (hM : Moved wx.heap.size ao ao') : WB w p ao0 ao' B' K w' :=
  ⟨hw, h.st.foot hS h.mv, h.mv.trans hM h.st.size, h.hp, fun b hb hh => by
    rcases hM b hb with h1 | h1
    · exact h.nb b h1 hh
    · have := h.kk; omega, Nat.le_trans h.kk hS.size⟩
theorem WB.box (h : WB w p ao0 ao B K wx) (hS : Stays (foot p ao) wx w') (i : Nat) (h1 : w.heap.size ≤ i) (h2 : i < K) : w'.heap[i]? = wx.heap[i]? :=
  hS.block i (by have := h.kk; omega) (fun hf => by
    rcases hf with hf | hf
    · have := h.hp; omega
    · exact h.nb i hf ⟨h1, h2⟩)
theorem WB.ints {xo : Option Addr} {l : List Int} (h : WB w p ao0 ao B K wx) (hl : IntsAt w xo l) (ha : Apart p ao0 xo l) : IntsAt wx xo l := by
  by_cases h0 : 0 < l.length
  · exact hl.stays h.st (ha h0)
  · exact hl.none_ h0
end
theorem results_none {fn : Func} (h : fn.results = #[]) (tmps : Array Value) (P : Program) (w : World) : (results fn tmps).run P w = .ok (.tuple #[]) w := by
  simp only [results, h]
  simp [Sem.run_bind, Result.andThen]
theorem RB.of_box {w wx : World} {c : Rc} {pa : Option Addr} {pc : Nat} {ea : Option Addr} {ec : Nat} (h : wx.heap[w.heap.size]? = some (.cells (riceC c pa pc ea ec) 24 (0, 0))) :
    wx.cell? ⟨w.heap.size, 0, none⟩ = some (.int .i64 c.m) ∧ wx.cell? ⟨w.heap.size, 1, none⟩ = some (.int .i64 c.o) ∧ wx.cell? ⟨w.heap.size, 2, none⟩ = some (.slice pa c.P.length pc) ∧ wx.cell? ⟨w.heap.size, 3, none⟩ = some (.slice ea c.E.length ec) := by
  refine ⟨?_, ?_, ?_, ?_⟩ <;> (rw [cell_of_row _ _ _ _ _ _ h]; rfl)
theorem ints_at {w : World} {b off : Nat} {l : List Int} (h : IntsAt w (some ⟨b, off, none⟩) l) (j : Nat) (hj : j < l.length) : w.cell? ⟨b, off + j, none⟩ = some (.int .i64 (l.getD j 0)) := h.get j hj
set_option maxRecDepth 20000 in
set_option maxHeartbeats 3200000 in
theorem writeHead_spec (c : Rc) (b o r i : Nat) (h : Rok c b o r) (hi : i < 2 ^ o) (pa : Option Addr) (pc : Nat) (ea : Option Addr) (ec : Nat) (p : Nat) (ao : Option Addr) (B : List Nat) (h01 : Bits01 B) (hB : B.length ≤ 6000000000000) (w : World) (hr : RcAt w c pa ea) (hw : WrB w p ao B) (a1 : Apart p ao pa c.P) (a2 : Apart p ao ea c.E) :
    Calls Try.prog 62 #[.pointer (some ⟨p, 0, none⟩), riceV c pa pc ea ec, .int .i64 (i : Int)] w fun en w' => en = .returned (.tuple #[]) ∧ ∃ ao', WrB w' p ao' (B ++ headB c.m (c.P.getD i 0) (c.E.getD i 0)) ∧ Stays (foot p ao) w w' ∧ Moved w.heap.size ao ao' := by
  have hjP : i < c.P.length := by rw [h.lP]; exact hi
  have hjE : i < c.E.length := by rw [h.lE]; exact hi
  obtain ⟨b1, o1, rfl⟩ := hr.P.addr (by omega)
  obtain ⟨b2, o2, rfl⟩ := hr.E.addr (by omega)
  have hrow := h.row i hi
  have hm0 := h.m0
  have hm1 := h.m1
  have hi2 : i < 32768 := by have := (pow15 o h.cut.o15).2; omega
  have KW : Hid (∀ wx, Calls Try.prog 79 #[.int .i64 c.m] wx fun e w' => e = .returned (.int .i64 (4 + c.m)) ∧ w' = wx) := fun wx => pw_spec c.m hm0 hm1 wx
  have KM : Hid (∀ wx, Calls Try.prog 80 #[.int .i64 c.m] wx fun e w' => e = .returned (.int .i64 (15 + 16 * c.m)) ∧ w' = wx) := fun wx => mark_spec c.m hm0 hm1 wx
  have HA : Hid (WB w p ao ao B (w.heap.size + 1) (w.alloc (.cells (riceC c (some ⟨b1, o1, none⟩) pc (some ⟨b2, o2, none⟩) ec) 24))) := WB.start hw ((Below.refl _ _).alloc (Nat.le_refl _) _) _ (by simp)
  have HBX : Hid ((w.alloc (.cells (riceC c (some ⟨b1, o1, none⟩) pc (some ⟨b2, o2, none⟩) ec) 24)).heap[w.heap.size]? = some (.cells (riceC c (some ⟨b1, o1, none⟩) pc (some ⟨b2, o2, none⟩) ec) 24 (0, 0))) := heap_alloc_new _ _
  have HPE : Hid (∀ ao' B' K wx, WB w p ao ao' B' K wx → wx.cell? ⟨b1, o1 + i, none⟩ = some (.int .i64 (c.P.getD i 0)) ∧ wx.cell? ⟨b2, o2 + i, none⟩ = some (.int .i64 (c.E.getD i 0))) := fun ao' B' K wx hh => ⟨(hh.ints hr.P a1).get i hjP, (hh.ints hr.E a2).get i hjE⟩
  clear h hr hw a1 a2
  generalize c.P.getD i 0 = kk at *
  generalize c.E.getD i 0 = ee at *
  rcases hrow with ⟨rfl, k0, k1⟩ | ⟨e0, e1, rfl⟩
  · obtain ⟨kn, rfl⟩ : ∃ n : Nat, kk = n := ⟨kk.toNat, by omega⟩
    have HHB : Hid (headB c.m (kn : Int) (-1) = putB (kn : Int) (4 + c.m)) := by show _ = _; unfold headB; rw [if_pos rfl]
    go_enter Try.func62, Try.ntmps62
    go_wp2_with fail
    generalize hwa : w.alloc _ = wa at *
    clear hwa
    refine (KW.out wa).mono ?_
    rintro e w2 ⟨rfl, rfl⟩
    obtain ⟨r1, r2⟩ := HPE.out _ _ _ _ HA.out
    obtain ⟨x0, x1, x2, x3⟩ := RB.of_box HBX.out
    have kp := wput_all w2 ao B p (kn : Int) (4 + c.m) (by omega) (by omega) h01 (by omega) HA.out.wr
    go_wp2_with fail
    refine kp.mono ?_
    rintro e w3 ⟨rfl, ao3, hw3, hs3, hv3⟩
    have HE := HA.out.put hw3 hs3 hv3
    have HE' : Hid (WB w p ao ao3 (B ++ putB (kn : Int) (4 + c.m)) (w.heap.size + 1) w3) := HE
    clear HE hw3 hs3 hv3
    go_wp2_with fail
    refine bodyPost_ret (v := .tuple #[]) (results_none rfl _ _ _) rfl ?_
    exact ⟨rfl, ao3, by rw [HHB.out]; exact HE'.out.wr, HE'.out.st, HE'.out.mv⟩
  · obtain ⟨en, rfl⟩ : ∃ n : Nat, ee = n := ⟨ee.toNat, by omega⟩
    have hbe : ((en : Int) == -1) = false := by rw [beq_eq_false_iff_ne]; omega
    have HHB : Hid (headB c.m 0 (en : Int) = putB (15 + 16 * c.m) (4 + c.m) ++ putB (en : Int) 5) := by show _ = _; unfold headB; rw [if_neg (by omega)]
    go_enter Try.func62, Try.ntmps62
    go_wp2_with fail
    generalize hwa : w.alloc _ = wa at *
    clear hwa
    refine (KW.out wa).mono ?_
    rintro e w2 ⟨rfl, rfl⟩
    obtain ⟨r1, r2⟩ := HPE.out _ _ _ _ HA.out
    obtain ⟨x0, x1, x2, x3⟩ := RB.of_box HBX.out
    have kp := wput_all w2 ao B p (15 + 16 * c.m) (4 + c.m) (by omega) (by omega) h01 (by omega) HA.out.wr
    go_wp2_with fail
    refine (KM.out w2).mono ?_
    rintro e w2 ⟨rfl, rfl⟩
    go_wp2_with fail
    refine kp.mono ?_
    rintro e w3 ⟨rfl, ao3, hw3, hs3, hv3⟩
    have HE : Hid (WB w p ao ao3 (B ++ putB (15 + 16 * c.m) (4 + c.m)) (w.heap.size + 1) w3) := HA.out.put hw3 hs3 hv3
    have HB3 : Hid (w3.heap[w.heap.size]? = some (.cells (riceC c (some ⟨b1, o1, none⟩) pc (some ⟨b2, o2, none⟩) ec) 24 (0, 0))) := by show _ = _; rw [HA.out.box hs3 _ (Nat.le_refl _) (by omega)]; exact HBX.out
    clear hw3 hs3 hv3 kp x0 x1 x2 x3 r1 r2
    obtain ⟨r1, r2⟩ := HPE.out _ _ _ _ HE.out
    obtain ⟨x0, x1, x2, x3⟩ := RB.of_box HB3.out
    have kp := wput_all w3 ao3 (B ++ putB (15 + 16 * c.m) (4 + c.m)) p (en : Int) 5 (by omega) (by omega) (h01.append (putB_01 _ _)) (by rw [List.length_append]; have := putB_short (15 + 16 * c.m) (4 + c.m) (by omega); omega) HE.out.wr
    go_wp2_with fail
    refine kp.mono ?_
    rintro e w4 ⟨rfl, ao4, hw4, hs4, hv4⟩
    have HE4 : Hid (WB w p ao ao4 (B ++ putB (15 + 16 * c.m) (4 + c.m) ++ putB (en : Int) 5) (w.heap.size + 1) w4) := HE.out.put hw4 hs4 hv4
    clear hw4 hs4 hv4 kp
    go_wp2_with fail
    go_end0
    exact ⟨rfl, ao4, by rw [HHB.out, ← List.append_assoc]; exact HE4.out.wr, HE4.out.st, HE4.out.mv⟩

end Go.Proofs.Ytkhdkmdiblomhaa

namespace Go.Proofs.Ytkhdkmdiblomhaa
open Go.RowKit
set_option linter.unusedSimpArgs false
set_option linter.unusedVariables false
set_option maxRecDepth 20000 in
set_option maxHeartbeats 3200000 in
theorem writePart_spec (c : Rc) (b o r i : Nat) (h : Rok c b o r) (hi : i < 2 ^ o) (X : List Int) (hX : ∀ x ∈ X, fitE (c.P.getD i 0) (c.E.getD i 0) x) (pa : Option Addr) (pc : Nat) (ea : Option Addr) (ec : Nat) (xo : Option Addr) (cap : Nat) (p : Nat) (ao : Option Addr) (B : List Nat) (h01 : Bits01 B) (hB : B.length + 17000000 * X.length ≤ 6000000000000) (w : World) (hr : RcAt w c pa ea) (hx : IntsAt w xo X) (hw : WrB w p ao B) (a1 : Apart p ao pa c.P) (a2 : Apart p ao ea c.E) (a3 : Apart p ao xo X) :
    Calls Try.prog 63 #[.pointer (some ⟨p, 0, none⟩), riceV c pa pc ea ec, .int .i64 (i : Int), .slice xo X.length cap] w fun en w' => en = .returned (.tuple #[]) ∧ ∃ ao', WrB w' p ao' (B ++ numsB (c.P.getD i 0) (c.E.getD i 0) X) ∧ Stays (foot p ao) w w' ∧ Moved w.heap.size ao ao' := by
  have hjP : i < c.P.length := by rw [h.lP]; exact hi
  have hjE : i < c.E.length := by rw [h.lE]; exact hi
  obtain ⟨b1, o1, rfl⟩ := hr.P.addr (by omega)
  obtain ⟨b2, o2, rfl⟩ := hr.E.addr (by omega)
  have hrow := h.row i hi
  have hi2 : i < 32768 := by have := (pow15 o h.cut.o15).2; omega
  have hlX := hx.len
  have HA : Hid (WB w p ao ao B (w.heap.size + 1) (w.alloc (.cells (riceC c (some ⟨b1, o1, none⟩) pc (some ⟨b2, o2, none⟩) ec) 24))) := WB.start hw ((Below.refl _ _).alloc (Nat.le_refl _) _) _ (by simp)
  have HBX : Hid ((w.alloc (.cells (riceC c (some ⟨b1, o1, none⟩) pc (some ⟨b2, o2, none⟩) ec) 24)).heap[w.heap.size]? = some (.cells (riceC c (some ⟨b1, o1, none⟩) pc (some ⟨b2, o2, none⟩) ec) 24 (0, 0))) := heap_alloc_new _ _
  have HPE : Hid (∀ ao' B' K wx, WB w p ao ao' B' K wx → wx.cell? ⟨b1, o1 + i, none⟩ = some (.int .i64 (c.P.getD i 0)) ∧ wx.cell? ⟨b2, o2 + i, none⟩ = some (.int .i64 (c.E.getD i 0)) ∧ IntsAt wx xo X) := fun ao' B' K wx hh => ⟨(hh.ints hr.P a1).get i hjP, (hh.ints hr.E a2).get i hjE, hh.ints hx a3⟩
  have HN : Hid (∀ x ∈ X, -9223372036854775808 ≤ x ∧ x ≤ 9223372036854775807) := hx.num
  have HXA : Hid (∀ j, j < X.length → ∃ b off, xo = some ⟨b, off, none⟩) := fun j hj => hx.addr (by omega)
  clear h hr hw a1 a2 hx
  generalize c.P.getD i 0 = kk at *
  generalize c.E.getD i 0 = ee at *
  have HFT : Hid (∀ x ∈ X, fitE kk ee x) := hX
  clear hX
  go_enter Try.func63, Try.ntmps63
  go_wp2_with fail
  generalize hwa : w.alloc _ = wa at *
  clear hwa
  go_loopw [9, 10, 13, 27, 37] (fun s9 s10 s13 s27 s37 wr => ∃ (j : Nat) (aj : Option Addr), j ≤ X.length ∧ s13 = .int .i64 (j : Int) ∧ WB w p ao aj (B ++ numsB kk ee (X.take j)) (w.heap.size + 1) wr ∧ wr.heap[w.heap.size]? = some (.cells (riceC c (some ⟨b1, o1, none⟩) pc (some ⟨b2, o2, none⟩) ec) 24 (0, 0))) (fun _ _ s13 _ _ _ => X.length - (intOf s13).toNat)
  case atStart => exact ⟨0, ao, Nat.zero_le _, rfl, by rw [List.take_zero, numsB_nil, List.append_nil]; exact HA.out, HBX.out⟩
  case round =>
    clear HA HBX
    obtain ⟨j, aj, hj, rfl, hwb, hbx⟩ := hrel
    have HA : Hid (WB w p ao aj (B ++ numsB kk ee (X.take j)) (w.heap.size + 1) wr) := hwb
    have HBX : Hid (wr.heap[w.heap.size]? = some (.cells (riceC c (some ⟨b1, o1, none⟩) pc (some ⟨b2, o2, none⟩) ec) 24 (0, 0))) := hbx
    clear hwb hbx
    by_cases hlt : j < X.length
    · obtain ⟨bx, ox, rfl⟩ := HXA.out j hlt
      obtain ⟨r1, r2, hxx⟩ := HPE.out _ _ _ _ HA.out
      have r3 := hxx.get j hlt
      obtain ⟨x0, x1, x2, x3⟩ := RB.of_box HBX.out
      have hft := HFT.out _ (getD_mem X j hlt)
      have hnn := HN.out _ (getD_mem X j hlt)
      have HT : Hid (numsB kk ee (X.take (j + 1)) = numsB kk ee (X.take j) ++ oneB kk ee (X.getD j 0)) := by show _ = _; rw [take_snoc X j hlt, numsB_snoc]
      have hlen : (B ++ numsB kk ee (X.take j)).length ≤ 6000000000000 := by
        rw [List.length_append]
        have := numsB_len kk ee (X.take j)
        rw [List.length_take] at this
        have : 17000000 * min j X.length ≤ 17000000 * X.length := Nat.mul_le_mul_left _ (Nat.min_le_right _ _)
        omega
      have h01' : Bits01 (B ++ numsB kk ee (X.take j)) := h01.append (numsB_01 _ _ _)
      clear hxx
      generalize X.getD j 0 = x at *
      generalize hBJ : B ++ numsB kk ee (X.take j) = BJ at *
      have HGO : Hid (B ++ numsB kk ee (X.take (j + 1)) = BJ ++ oneB kk ee x) := by show _ = _; rw [HT.out, ← List.append_assoc, hBJ]
      clear hBJ HT
      rcases hrow with ⟨rfl, k0, k1⟩ | ⟨e0, e1, rfl⟩
      · have HOB : Hid (oneB kk (-1) x = rcwB x kk) := by show _ = _; unfold oneB; rw [if_pos rfl]
        have kp := wric_all wr aj BJ p x kk hnn.1 hnn.2 h01' (by omega) HA.out.wr
        clear hft
        go_wp2_with fail
        refine kp.mono ?_
        rintro e w3 ⟨rfl, ao3, hw3, hs3, hv3⟩
        have HE : Hid (WB w p ao ao3 (BJ ++ rcwB x kk) (w.heap.size + 1) w3) := HA.out.put hw3 hs3 hv3
        have HB3 : Hid (w3.heap[w.heap.size]? = some (.cells (riceC c (some ⟨b1, o1, none⟩) pc (some ⟨b2, o2, none⟩) ec) 24 (0, 0))) := by show _ = _; rw [HA.out.box hs3 _ (Nat.le_refl _) (by omega)]; exact HBX.out
        clear hw3 hs3 hv3 kp x0 x1 x2 x3 r1 r2 r3
        go_wp2_with fail
        go_roundw
        case rel => exact ⟨j + 1, ao3, by omega, by go_num, by rw [HGO.out, HOB.out]; exact HE.out, HB3.out⟩
        case measure => simp [intOf]; omega
      · obtain ⟨en, rfl⟩ : ∃ n : Nat, ee = n := ⟨ee.toNat, by omega⟩
        have hbe : ((en : Int) == -1) = false := by rw [beq_eq_false_iff_ne]; omega
        by_cases hz : en = 0
        · subst hz
          have HOB : Hid (oneB 0 ((0 : Nat) : Int) x = []) := by show _ = _; unfold oneB; rw [if_neg (by decide), if_pos (show ((0 : Nat) : Int) = 0 from rfl)]
          clear hft
          go_wp2_with fail
          go_roundw
          case rel => exact ⟨j + 1, aj, by omega, by go_num, by rw [HGO.out, HOB.out, List.append_nil]; exact HA.out, HBX.out⟩
          case measure => simp [intOf]; omega
        · have hbz : ((en : Int) == 0) = false := by rw [beq_eq_false_iff_ne]; omega
          have HOB : Hid (oneB 0 (en : Int) x = sigB x (en : Int)) := by show _ = _; unfold oneB; rw [if_neg (by omega), if_neg (by omega)]
          have kp := wsig_all wr aj BJ p x (en : Int) h01' (by omega) HA.out.wr
          clear hft
          go_wp2_with fail
          refine kp.mono ?_
          rintro e w3 ⟨rfl, ao3, hw3, hs3, hv3⟩
          have HE : Hid (WB w p ao ao3 (BJ ++ sigB x (en : Int)) (w.heap.size + 1) w3) := HA.out.put hw3 hs3 hv3
          have HB3 : Hid (w3.heap[w.heap.size]? = some (.cells (riceC c (some ⟨b1, o1, none⟩) pc (some ⟨b2, o2, none⟩) ec) 24 (0, 0))) := by show _ = _; rw [HA.out.box hs3 _ (Nat.le_refl _) (by omega)]; exact HBX.out
          clear hw3 hs3 hv3 kp x0 x1 x2 x3 r1 r2 r3
          go_wp2_with fail
          go_roundw
          case rel => exact ⟨j + 1, ao3, by omega, by go_num, by rw [HGO.out, HOB.out]; exact HE.out, HB3.out⟩
          case measure => simp [intOf]; omega
    · have HE : Hid (X.take j = X) := List.take_of_length_le (by omega)
      go_wp2_with fail
      go_end0
      exact ⟨rfl, aj, by have := HA.out.wr; rw [HE.out] at this; exact this, HA.out.st, HA.out.mv⟩

end Go.Proofs.Ytkhdkmdiblomhaa
