/- Own text: the walk of the program's lay. -/
import Derived.Test.YtolmijpecomkcaaQ5slice2
namespace Go.Proofs.Ytolmijpecomkcaa
open Go.RowKit
set_option linter.unusedSimpArgs false
set_option linter.unusedVariables false

theorem slice_low (g N at' : Nat) (h : at' ≤ N) : ∃ xo : Option Addr, (∀ w, (Instr.slice 45 (.slice (some ⟨g, 0, none⟩) N N) (some (.int .i64 (at' : Int))) none none).run Try.prog w = .ok (.slice xo (N - at') (N - at')) w) ∧ (at' < N → xo = some ⟨g, at', none⟩) ∧ ∃ ad, xo = some ad := by
  refine ⟨some (if N = at' then ⟨g, 0, none⟩ else (⟨g, 0, none⟩ : Addr).add at'), fun w => ?_, fun hlt => ?_, _, rfl⟩
  · rw [run_slice_l w 45 (some ⟨g, 0, none⟩) N N undI .i64 _ (by omega) (by omega), elemI, size3]
    simp only [Result.andThen_ok, sliced, Int.toNat_natCast, Option.map_some, Nat.mul_one]
    split <;> rfl
  · rw [if_neg (by omega), Addr.add_mid, Nat.zero_add]

/-- What lay keeps: the planes of the whole, of which the first i have the part's samples from place s on. -/
structure Ly (w0 : World) (B c N s m : Nat) (F : Nat → Nat → Int) (ys : List (List Int)) (i : Nat) (w : World) : Prop where
  mat : Mat B c N (fun k j => if k < i ∧ s ≤ j ∧ j < s + m then (ys.getD k []).getD (j - s) 0 else F k j) w
  kept : ∀ k, (k ≤ B ∨ B + c < k) → w.heap[k]? = w0.heap[k]?
  size : w.heap.size = w0.heap.size
  os : w.os = w0.os
  tape : w.tape = w0.tape
  output : w.output = w0.output
theorem Ly.below {w0 w : World} {B c N s m : Nat} {F : Nat → Nat → Int} {ys : List (List Int)} {i : Nat} (h : Ly w0 B c N s m F ys i w) : Below B w0 w :=
  ⟨h.os, h.tape, h.output, by rw [h.size]; exact Nat.le_refl _, fun k hk => h.kept k (Or.inl (Nat.le_of_lt hk))⟩

set_option maxRecDepth 20000 in
set_option maxHeartbeats 3200000 in
theorem lay_spec (B c N s m : Nat) (F : Nat → Nat → Int) (ys : List (List Int)) (bo : Option Addr) (bc : Nat) (wr0 w : World) (hM : Mat B c N F w) (hr : RowsAt wr0 bo ys) (hB : Below wr0.heap.size wr0 w) (hBB : wr0.heap.size ≤ B) (hc : ys.length = c) (hn : ∀ i, i < ys.length → (ys.getD i []).length = m) (hs : s + m ≤ N) (hN : N ≤ 1048576) (h8 : c ≤ 8) :
    Calls Try.prog 47 #[.slice (some ⟨B, 0, none⟩) c c, .slice bo ys.length bc, .int .i64 (s : Int)] w fun e w' => e = .returned (.tuple #[]) ∧ Ly w B c N s m F ys c w' := by
  have HL0 : Hid (Ly w B c N s m F ys 0 w) := ⟨⟨hM.outer, fun k hk => (hM.inner k hk).congr fun j hj => by rw [if_neg (fun h => absurd h.1 (Nat.not_lt_zero _))]⟩, fun _ _ => rfl, rfl, rfl, rfl, rfl⟩
  have HR : Hid (RowsAt wr0 bo ys) := hr
  have HN : Hid (∀ i, i < ys.length → (ys.getD i []).length = m) := hn
  have HB : Hid (Below wr0.heap.size wr0 w) := hB
  have hl := hr.len
  have HCC : Hid (ys.length = c) := hc
  have hcle : ys.length ≤ c := by omega
  have hcge : c ≤ ys.length := by omega
  clear hM hr hn hB hc
  go_enter Try.func47, Try.ntmps47
  go_wp2_with fail
  go_loopw [6, 7, 10] (fun s6 s7 t wr => ∃ i : Nat, i ≤ c ∧ t = .int .i64 (i : Int) ∧ Ly w B c N s m F ys i wr) (fun _ _ t _ => c - (intOf t).toNat)
  case atStart => exact ⟨0, Nat.zero_le _, rfl, HL0.out⟩
  case round =>
    clear HL0
    obtain ⟨i, hi, rfl, hly⟩ := hrel
    have HL : Hid (Ly w B c N s m F ys i wr) := hly
    clear hly
    by_cases hlt : i < c
    · have hlt2 : i < ys.length := by omega
      have hbw : Below wr0.heap.size wr0 wr := HB.out.trans (HL.out.below.mono hBB)
      obtain ⟨b, off, a, cc, rfl, hac, ha0, hcell, hints⟩ := HR.out.at2 i hlt2
      have hc0 := hcell wr hbw
      rw [HN.out i hlt2] at hc0 hac
      obtain ⟨xo, hsl, hxo, ad, had⟩ := slice_low (B + 1 + i) N s (by omega)
      have hcd : wr.cell? ⟨B, i, none⟩ = some (.slice (some ⟨B + 1 + i, 0, none⟩) N N) := HL.out.mat.outer.cell hlt
      have hcp : ∃ w', (Builtin.copy_ #[45, 45] 3 #[.slice xo (N - s) (N - s), .slice a m cc]).run Try.prog wr = .ok (goInt m) w' ∧ w'.rowIs (B + 1 + i) 3 N (fun j => .int .i64 (if s ≤ j ∧ j < s + m then (ys.getD i []).getD (j - s) 0 else F i j)) ∧ (∀ k, k ≠ B + 1 + i → w'.heap[k]? = wr.heap[k]?) ∧ w'.heap.size = wr.heap.size ∧ w'.os = wr.os ∧ w'.tape = wr.tape ∧ w'.output = wr.output := by
        have hrow : wr.rowIs (B + 1 + i) 3 N (fun j => .int .i64 (F i j)) := (HL.out.mat.inner i hlt).congr fun j hj => by rw [if_neg (fun h => absurd h.1 (Nat.lt_irrefl _))]
        by_cases h0 : m = 0
        · refine ⟨wr, ?_, hrow.congr fun j hj => by rw [if_neg (by omega)], fun _ _ => rfl, rfl, rfl, rfl, rfl⟩
          rw [h0]
          exact run_copy_none wr 45 45 3 3 xo a (N - s) (N - s) 0 cc Try.underlying45 (by kernel_rfl) (Nat.zero_min _)
        · rw [hxo (by omega)]
          exact copy_row wr 3 (B + 1 + i) N s m (N - s) (N - s) cc (F i) hrow a (ys.getD i []) (HN.out i hlt2) hs (by omega) (fun _ => by
            obtain ⟨b2, o2, e, hc2⟩ := hints.lies (by rw [HN.out i hlt2]; omega)
            refine ⟨b2, o2, e, fun j hj => ?_⟩
            have h1 := hc2 j (by rw [HN.out i hlt2]; exact hj)
            rw [← h1]
            exact hbw.cell (p := ⟨b2, o2 + j, none⟩) (lt_cell h1))
      obtain ⟨w', hrun, hrow, hoth, hsz, ho1, ho2, ho3⟩ := hcp
      have HN2 : Hid (Ly w B c N s m F ys (i + 1) w') := by
        refine ⟨⟨HL.out.mat.outer.of_block (hoth _ (by omega)), fun k hk => ?_⟩, fun k hk => by rw [hoth k (by omega)]; exact HL.out.kept k hk, hsz.trans HL.out.size, ho1.trans HL.out.os, ho2.trans HL.out.tape, ho3.trans HL.out.output⟩
        by_cases e : k = i
        · subst e
          refine hrow.congr fun j hj => ?_
          by_cases q : s ≤ j ∧ j < s + m
          · rw [if_pos q, if_pos ⟨Nat.lt_succ_self _, q⟩]
          · rw [if_neg q, if_neg (fun h => q h.2)]
        · refine ((HL.out.mat.inner k hk).of_block (hoth _ (by omega))).congr fun j hj => ?_
          by_cases q : k < i ∧ s ≤ j ∧ j < s + m
          · rw [if_pos q, if_pos ⟨by omega, q.2⟩]
          · rw [if_neg q, if_neg (fun h => q ⟨by omega, h.2⟩)]
      clear hcell hints hrow hoth hsz ho1 ho2 ho3 hxo HL hbw had
      go_wp2_with fail
      go_roundw
      case rel => exact ⟨i + 1, by omega, by go_num, HN2.out⟩
      case measure => simp [intOf]; omega
    · have hie : i = c := by omega
      subst hie
      go_wp2_with fail
      go_end0
      exact ⟨rfl, HL.out⟩

end Go.Proofs.Ytolmijpecomkcaa
