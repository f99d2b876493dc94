/- Own text: copies into rows that a call made. -/
import Derived.Test.YtolmijpecomkcaaQ5blank
import Derived.Test.YtolmijpecomkcaaP5cut
import Derived.Laws.CopyRow
import Derived.Laws.IdiomCopy
import Derived.Deep.RegionHeld3
namespace Go.Proofs.Ytolmijpecomkcaa
open Go.RowKit
set_option linter.unusedSimpArgs false
set_option linter.unusedVariables false

theorem copy_row (w : World) (ty : TypeId) (g n o m dLen dCap sCap : Nat) (F : Nat → Int) (hrow : w.rowIs g 3 n (fun i => .int .i64 (F i))) (src : Option Addr) (l : List Int) (hl : l.length = m) (ho : o + m ≤ n) (hd : m ≤ dLen)
    (hsrc : 0 < m → ∃ b off, src = some ⟨b, off, none⟩ ∧ ∀ j, j < m → w.cell? ⟨b, off + j, none⟩ = some (.int .i64 (l.getD j 0))) :
    ∃ w', (Builtin.copy_ #[45, 45] ty #[.slice (some ⟨g, o, none⟩) dLen dCap, .slice src m sCap]).run Try.prog w = .ok (goInt m) w' ∧ w'.rowIs g 3 n (fun i => .int .i64 (if o ≤ i ∧ i < o + m then l.getD (i - o) 0 else F i)) ∧ (∀ k, k ≠ g → w'.heap[k]? = w.heap[k]?) ∧ w'.heap.size = w.heap.size ∧ w'.os = w.os ∧ w'.tape = w.tape ∧ w'.output = w.output := by
  have hs : (Try.prog.info? 3).map (·.size) = some 1 := by kernel_rfl
  have hmin : Nat.min m dLen = m := Nat.min_eq_left hd
  by_cases h0 : m = 0
  · subst h0
    refine ⟨w, run_copy_none w 45 45 ty 3 _ _ dLen dCap 0 sCap Try.underlying45 hs hmin, hrow.congr fun i hi => ?_, fun _ _ => rfl, rfl, rfl, rfl, rfl⟩
    rw [if_neg (by omega)]
  · obtain ⟨b, off, rfl, hc⟩ := hsrc (by omega)
    obtain ⟨cur, hg, hsz, hcell⟩ := hrow
    let cs : List Value := l.map fun x => Value.int .i64 x
    have hcs : cs.length = m := by simp [cs, hl]
    have hrun := run_copy_row (P := Try.prog) w 45 45 ty 3 g o dLen dCap ⟨b, off, none⟩ m sCap cur 3 cs Try.underlying45 hs hg (by rw [hcs, hmin]) (fun j v hv => ?_) (by rw [hcs, hsz]; exact ho) (by intro v hv; obtain ⟨x, _, rfl⟩ := List.mem_map.1 hv; rfl)
    · rw [hcs] at hrun
      refine ⟨_, hrun, ?_, fun k hk => setRow_other _ _ _ _ hk, size_setRow _ _ _, rfl, rfl, rfl⟩
      refine ⟨_, setRow_heap w g cur _ 3 (0, 0) hg, ?_, fun i hi => ?_⟩
      · simp [hcs, hsz]
        omega
      · have hcl : cur.toList.length = n := by rw [Array.length_toList, hsz]
        have h1 : ((cur.toList.take o ++ cs ++ cur.toList.drop (o + m)).toArray)[i]? = (cur.toList.take o ++ cs ++ cur.toList.drop (o + m))[i]? := by simp
        rw [h1]
        show _ = some (Value.int .i64 (if o ≤ i ∧ i < o + m then l.getD (i - o) 0 else F i))
        have hto : (cur.toList.take o).length = o := by rw [List.length_take]; omega
        by_cases c1 : i < o
        · rw [if_neg (by omega), List.append_assoc, List.getElem?_append_left (by rw [hto]; exact c1), List.getElem?_take, if_pos c1]
          have := hcell i hi
          simpa using this
        · by_cases c2 : i < o + m
          · rw [if_pos ⟨by omega, c2⟩, List.append_assoc, List.getElem?_append_right (by rw [hto]; omega), hto, List.getElem?_append_left (by omega)]
            simp only [cs, List.getElem?_map, List.getD_eq_getElem?_getD]
            rw [List.getElem?_eq_getElem (by omega)]
            rfl
          · rw [if_neg (by omega), List.getElem?_append_right (by rw [List.length_append, hto, hcs]; omega), List.length_append, hto, hcs, List.getElem?_drop, show o + m + (i - (o + m)) = i by omega]
            have := hcell i hi
            simpa using this
    · have hj : j < m := by
        have := List.getElem?_eq_some_iff.1 hv
        obtain ⟨h, _⟩ := this
        omega
      have := hc j hj
      simp only [cs, List.getElem?_map] at hv
      rw [List.getElem?_eq_getElem (by omega)] at hv
      simp only [Option.map_some, Option.some.injEq] at hv
      subst hv
      rw [Addr.add_mid, this]
      simp [List.getD, hl, hj]

/-- What cut keeps. -/
structure Ck (w0 : World) (xs : List (List Int)) (f m i : Nat) (w : World) : Prop where
  mat : Mat w0.heap.size xs.length m (fun k j => if k < i then (xs.getD k []).getD (f + j) 0 else 0) w
  below : Below w0.heap.size w0 w
theorem Ck.set {w0 w w' : World} {xs : List (List Int)} {f m i : Nat} (h : Ck w0 xs f m i w) (hi : i < xs.length) (h1 : w'.rowIs (w0.heap.size + 1 + i) 3 m (fun j => .int .i64 ((xs.getD i []).getD (f + j) 0))) (h2 : ∀ k, k ≠ w0.heap.size + 1 + i → w'.heap[k]? = w.heap[k]?) (h3 : w'.heap.size = w.heap.size) (h4 : w'.os = w.os) (h5 : w'.tape = w.tape) (h6 : w'.output = w.output) : Ck w0 xs f m (i + 1) w' := by
  refine ⟨⟨h.mat.outer.of_block (h2 _ (by omega)), fun k hk => ?_⟩, ⟨h4.trans h.below.os, h5.trans h.below.tape, h6.trans h.below.output, by rw [h3]; exact h.below.size, fun k hk => by rw [h2 k (by omega)]; exact h.below.block k hk⟩⟩
  by_cases e : k = i
  · subst e
    exact h1.congr fun j hj => by rw [if_pos (Nat.lt_succ_self _)]
  · refine ((h.mat.inner k hk).of_block (h2 _ (by omega))).congr fun j hj => ?_
    by_cases q : k < i
    · rw [if_pos q, if_pos (by omega)]
    · rw [if_neg q, if_neg (by omega)]

set_option maxRecDepth 20000 in
set_option maxHeartbeats 3200000 in
theorem cut_spec (xs : List (List Int)) (ao : Option Addr) (cap f t n : Nat) (w : World) (hr : RowsAt w ao xs) (h8 : xs.length ≤ 8) (hn : ∀ i, i < xs.length → (xs.getD i []).length = n) (hn20 : n ≤ 1048576) (hft : f ≤ t) (htn : t ≤ n) :
    Calls Try.prog 49 #[.slice ao xs.length cap, .int .i64 (f : Int), .int .i64 (t : Int)] w fun e w' => e = .returned (.slice (some ⟨w.heap.size, 0, none⟩) xs.length xs.length) ∧ Mat w.heap.size xs.length (t - f) (fun k j => (xs.getD k []).getD (f + j) 0) w' ∧ Below w.heap.size w w' := by
  have hl := hr.len
  have kb := blank_spec xs.length (t - f) h8 (by omega) w
  have hsub : (t : Int) - (f : Int) = ((t - f : Nat) : Int) := by omega
  have HR : Hid (RowsAt w ao xs) := hr
  have HN : Hid (∀ i, i < xs.length → (xs.getD i []).length = n) := hn
  clear hr hn
  generalize hm : t - f = m at *
  have HM : Hid (t - f = m) := hm
  clear hm
  go_enter Try.func49, Try.ntmps49
  go_wp2_with fail
  refine kb.mono ?_
  rintro e w2 ⟨rfl, hM, _, hB⟩
  have HC : Hid (Ck w xs f m 0 w2) := ⟨⟨hM.outer, fun k hk => (hM.inner k hk).congr fun j hj => by rw [if_neg (Nat.not_lt_zero _)]⟩, hB⟩
  clear hM hB kb
  go_wp2_with fail
  go_loopw [8, 9, 18] (fun s8 s9 t wr => ∃ i : Nat, i ≤ xs.length ∧ t = .int .i64 (i : Int) ∧ Ck w xs f m i wr) (fun _ _ t _ => xs.length - (intOf t).toNat)
  case atStart => exact ⟨0, Nat.zero_le _, rfl, HC.out⟩
  case round =>
    clear HC
    obtain ⟨i, hi, rfl, hck⟩ := hrel
    have HC : Hid (Ck w xs f m i wr) := hck
    clear hck
    by_cases hlt : i < xs.length
    · obtain ⟨b, off, a, c, rfl, hac, ha0, hcell, hints⟩ := HR.out.at2 i hlt
      have hc0 := hcell wr HC.out.below
      rw [HN.out i hlt] at hc0 hac
      obtain ⟨xo, c', hsl, hxo, hxs⟩ := slice_ints a n c f t hft htn hac ha0
      rw [HM.out] at hsl hxo
      have hcd : wr.drew.cell? ⟨w.heap.size, i, none⟩ = some (.slice (some ⟨w.heap.size + 1 + i, 0, none⟩) m m) := HC.out.mat.outer.cell hlt
      have hlen : (cutL f t (xs.getD i [])).length = m := by rw [cutL_length f t _ hft (by rw [HN.out i hlt]; exact htn), HM.out]
      obtain ⟨w', hrun, hrow, hoth, hsz, ho1, ho2, ho3⟩ := copy_row wr.drew 3 (w.heap.size + 1 + i) m 0 m m m c' _ ((HC.out.mat.inner i hlt).drew) xo (cutL f t (xs.getD i [])) hlen (by omega) (Nat.le_refl _) (fun h0 => by
        have hmm := HM.out
        obtain ⟨b2, o2, e, hc2⟩ := hints.lies (by rw [HN.out i hlt]; omega)
        refine ⟨b2, o2 + f, hxs b2 o2 e (by omega), fun j hj => ?_⟩
        have hlj : f + j < (xs.getD i []).length := by rw [HN.out i hlt]; omega
        have h1 := hc2 (f + j) hlj
        have h2 : wr.drew.cell? ⟨b2, o2 + (f + j), none⟩ = w.cell? ⟨b2, o2 + (f + j), none⟩ := HC.out.below.drew.cell (p := ⟨b2, o2 + (f + j), none⟩) (lt_cell h1)
        rw [Nat.add_assoc, h2, h1]
        have h3 := cutL_get f t (xs.getD i []) hft (by rw [HN.out i hlt]; exact htn) j (by omega)
        rw [List.getD_eq_getElem?_getD (l := cutL f t (xs.getD i [])), h3]
        rfl)
      have HN2 : Hid (Ck w xs f m (i + 1) w') := by
        have hD : Ck w xs f m i wr.drew := ⟨⟨HC.out.mat.outer.drew, fun k hk => (HC.out.mat.inner k hk).drew⟩, HC.out.below.drew⟩
        refine hD.set hlt (hrow.congr fun j hj => ?_) hoth hsz ho1 ho2 ho3
        rw [if_pos ⟨Nat.zero_le _, by omega⟩, Nat.sub_zero]
        have h3 := cutL_get f t (xs.getD i []) hft (by rw [HN.out i hlt]; exact htn) j (by have := HM.out; omega)
        rw [List.getD_eq_getElem?_getD (l := cutL f t (xs.getD i [])), h3]
        rfl
      have hcw : w'.cell? ⟨w.heap.size, i, none⟩ = some (.slice (some ⟨w.heap.size + 1 + i, 0, none⟩) m m) := HN2.out.mat.outer.cell hlt
      clear hcell hints hrow hoth hsz ho1 ho2 ho3 hxs hxo hlen HC
      go_wp2_with fail
      go_region_held3 (fun wx => wx.cell? ⟨w.heap.size, i, none⟩ = some (.slice (some ⟨w.heap.size + 1 + i, 0, none⟩) m m)) (first | exact hcd | exact hcw) (fail)
      clear hcd hcw hrun hsl
      go_wp2_with fail
      go_roundw
      case rel => exact ⟨i + 1, by omega, by go_num, HN2.out⟩
      case measure => simp [intOf]; omega
    · have hie : i = xs.length := by omega
      subst hie
      go_wp2_with fail
      go_ret
      exact ⟨rfl, ⟨HC.out.mat.outer, fun k hk => (HC.out.mat.inner k hk).congr fun j hj => by rw [if_pos hk]⟩, HC.out.below⟩

end Go.Proofs.Ytolmijpecomkcaa
