/- Own text: what read tells; its walk where no head stands. -/
import Derived.Test.YtjkamannjgcmiaaDoorG25x
import Derived.Test.YtjkamannjgcmiaaDoorR15one
import Derived.Test.YtjkamannjgcmiaaDoorR15prsl
namespace Go.Proofs.YtjkamannjgcmiaaDoor
open Go.RowKit
set_option linter.unusedSimpArgs false
set_option linter.unusedVariables false

abbrev Sh0 : Sh := ⟨Pg0, ⟨#[]⟩⟩
abbrev zeroS : Array Value := (shC Sh0 none 0).toArray
theorem info_sheet : (Tryd.prog.info? 74).map (·.size) = some 6 := by kernel_rfl
theorem info_sheet3 : (Tryd.prog.info? 74).map (fun i => (i.zero, i.size, i.bytes)) = some (some (.agg zeroS), 6, 72) := by kernel_rfl
theorem zero_sheet (w : World) : (zeroValue 74).run Tryd.prog w = .ok (.agg zeroS) w := by kernel_rfl
theorem results_three {fn : Func} {p t u : Tmp} {ty : TypeId} (h : fn.results = #[.cell p ty, .tmp t, .tmp u]) (tmps : Array Value) (P : Program) (w : World) :
    (results fn tmps).run P w = ((asAddr (tmps.getD p undef)).run P w).andThen fun a w₁ => ((loadVar ty a).run P w₁).andThen fun x w₂ => .ok (.tuple #[x, tmps.getD t undef, tmps.getD u undef]) w₂ := by
  simp only [results, h]
  simp [Sem.run_bind, Result.andThen]
/-- What stands at the beginning is read. -/
abbrev rdOk (L : List Nat) : Prop := 27 ≤ L.length ∧ seg L 0 5 = markL ∧ 27 + u8 L 26 ≤ L.length ∧ endN L ≤ L.length ∧ oggN (sumL L (endN L)) = leN (seg L 22 26)
def rdG (L : List Nat) : Pg := ⟨(u8 L 5 : Nat), (leN (seg L 14 18) : Nat), (leN (seg L 18 22) : Nat), sgI (leN (seg L 6 14)), (laN L).map fun x : Nat => (x : Int)⟩
def rdP (s : ByteArray) : Sh := ⟨rdG (bytesOf s), s.extract (27 + u8 (bytesOf s) 26) (endN (bytesOf s))⟩
def RdE (B : Nat) (s : ByteArray) (e : Ending) (w' : World) : Prop := (rdOk (bytesOf s) → ∃ ao c, e = .returned (.tuple #[shV (rdP s) ao c, .int .i64 (endN (bytesOf s) : Nat), .int .i64 0]) ∧ PgAt w' (rdP s).p ao c ∧ ∀ b, blockOf ao = some b → B ≤ b) ∧ (¬ rdOk (bytesOf s) → e = .returned (.tuple #[.agg zeroS, .int .i64 0, .int .i64 2]))
theorem box_store {w : World} {g : Nat} {C D : Array Value} {T : TypeId} (h : Box w g C T) : Box (w.setRow g D) g D T := h.set D
set_option maxRecDepth 20000 in
set_option maxHeartbeats 1600000 in
theorem read_early (s : ByteArray) (hs : s.size ≤ 140737488351232) (w : World) (h : ¬ (27 ≤ s.size ∧ seg (bytesOf s) 0 5 = markL ∧ 27 + u8 (bytesOf s) 26 ≤ s.size)) :
    Calls Tryd.prog 37 #[.string s] w fun e w' => RdE w.heap.size s e w' ∧ Below w.heap.size w w' := by
  have HNO : Hid (¬ rdOk (bytesOf s)) := fun q => h ⟨by have := q.1; rw [bytesOf_length] at this; exact this, q.2.1, by have := q.2.2.1; rw [bytesOf_length] at this; exact this⟩
  have hz := zero_sheet
  have HB : Hid (Box (w.alloc (.cells zeroS 74)) w.heap.size zeroS 74) := Box.new _ _ _
  have HBB : Hid (Below w.heap.size w ((w.alloc (.cells zeroS 74)).setRow w.heap.size zeroS)) := below_setRow (below_new _ _) (Nat.le_refl _) _
  by_cases h27 : s.size < 27
  · clear h
    go_enter Tryd.func37, Tryd.ntmps37
    go_wp2_with (refine wpList_store_row rfl 74 (.tmp 2) (.tmp 17) rfl w.heap.size zeroS rfl rfl 74 zeroS HB.out.h info_sheet rfl (by simp [Value.oneCell']) ?_)
    refine bodyPost_ret (v := .tuple #[.agg zeroS, .int .i64 0, .int .i64 2]) ?_ rfl ⟨⟨fun q => absurd q HNO.out, fun _ => rfl⟩, HBB.out⟩
    rw [results_three rfl]
    have hld := run_loadVar_row (P := Tryd.prog) ((w.alloc (.cells zeroS 74)).setRow w.heap.size zeroS) w.heap.size 74 74 zeroS (0, 0) _ (HB.out.set zeroS).h Tryd.underlying74 rfl info_sheet
    simp [asAddr, Result.andThen, hld]
  · have hsl : ∀ w, (Instr.slice 9 (.string s) none (some (.int .i64 5)) none).run Tryd.prog w = .ok (.string (s.extract 0 5)) w := slice_upto s 5 (by omega)
    cases hm : ((s.extract 0 5).toList == [79, 103, 103, 83, 0])
    · clear h
      go_enter Tryd.func37, Tryd.ntmps37
      go_wp2_with (refine wpList_store_row rfl 74 (.tmp 2) (.tmp 17) rfl w.heap.size zeroS rfl rfl 74 zeroS HB.out.h info_sheet rfl (by simp [Value.oneCell']) ?_)
      refine bodyPost_ret (v := .tuple #[.agg zeroS, .int .i64 0, .int .i64 2]) ?_ rfl ⟨⟨fun q => absurd q HNO.out, fun _ => rfl⟩, HBB.out⟩
      rw [results_three rfl]
      have hld := run_loadVar_row (P := Tryd.prog) ((w.alloc (.cells zeroS 74)).setRow w.heap.size zeroS) w.heap.size 74 74 zeroS (0, 0) _ (HB.out.set zeroS).h Tryd.underlying74 rfl info_sheet
      simp [asAddr, Result.andThen, hld]
    · have hm2 : seg (bytesOf s) 0 5 = markL := by rw [← bytesOf_ext]; exact toL _ _ hm
      have e26 := u8_at s 26 (by omega)
      have hb26 : (s[26]'(by omega)).toNat < 256 := UInt8.toNat_lt _
      have hla : (s.size : Int) < 27 + ((s[26]'(by omega)).toNat : Int) := by
        by_cases q : 27 + (s[26]'(by omega)).toNat ≤ s.size
        · exact absurd ⟨by omega, hm2, by omega⟩ h
        · omega
      clear h hm2 e26
      go_enter Tryd.func37, Tryd.ntmps37
      go_wp2_with (refine wpList_store_row rfl 74 (.tmp 2) (.tmp 26) rfl w.heap.size zeroS rfl rfl 74 zeroS HB.out.h info_sheet rfl (by simp [Value.oneCell']) ?_)
      refine bodyPost_ret (v := .tuple #[.agg zeroS, .int .i64 0, .int .i64 2]) ?_ rfl ⟨⟨fun q => absurd q HNO.out, fun _ => rfl⟩, HBB.out⟩
      rw [results_three rfl]
      have hld := run_loadVar_row (P := Tryd.prog) ((w.alloc (.cells zeroS 74)).setRow w.heap.size zeroS) w.heap.size 74 74 zeroS (0, 0) _ (HB.out.set zeroS).h Tryd.underlying74 rfl info_sheet
      simp [asAddr, Result.andThen, hld]

end Go.Proofs.YtjkamannjgcmiaaDoor
