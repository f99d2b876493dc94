/- Own text: the walk of the document's Chunks. -/
import Derived.Test.YtaepgjheknkojaaGreatR6chunk
import Derived.Test.YtaepgjheknkojaaGreatG6x
namespace Go.Proofs.YtaepgjheknkojaaGreat
open Go.RowKit
set_option linter.unusedSimpArgs false
set_option linter.unusedVariables false

def ccells (l : List Chk) : List Value := l.flatMap fun c => [.string c.id, .string c.body, .int .i64 c.pad]
theorem ccells_length (l : List Chk) : (ccells l).length = l.length * 3 := by
  induction l with
  | nil => rfl
  | cons c t ih =>
    have e : ccells (c :: t) = [.string c.id, .string c.body, .int .i64 c.pad] ++ ccells t := by simp [ccells]
    rw [e, List.length_append, ih]
    simp
    omega
theorem ccells_snoc (l : List Chk) (c : Chk) : ccells (l ++ [c]) = ccells l ++ [.string c.id, .string c.body, .int .i64 c.pad] := by simp [ccells]
theorem ccells_get : ∀ (l : List Chk) (i : Nat) (c : Chk), l[i]? = some c → (ccells l)[i * 3]? = some (.string c.id) ∧ (ccells l)[i * 3 + 1]? = some (.string c.body) ∧ (ccells l)[i * 3 + 2]? = some (.int .i64 c.pad)
  | [], i, c, h => by simp at h
  | x :: t, 0, c, h => by
    simp at h
    subst h
    exact ⟨rfl, rfl, rfl⟩
  | x :: t, i + 1, c, h => by
    have ih := ccells_get t i c (by simpa using h)
    have e : ∀ r, (ccells (x :: t))[(i + 1) * 3 + r]? = (ccells t)[i * 3 + r]? := fun r => by
      have e : ccells (x :: t) = [.string x.id, .string x.body, .int .i64 x.pad] ++ ccells t := by simp [ccells]
      rw [e, List.getElem?_append_right (by simp; omega)]
      congr 1
      simp
      omega
    refine ⟨?_, ?_, ?_⟩
    · have := e 0
      rw [Nat.add_zero, Nat.add_zero] at this
      rw [this]
      exact ih.1
    · rw [e 1]; exact ih.2.1
    · rw [e 2]; exact ih.2.2
/-- Chunks in memory. -/
structure ChksAt (w : World) (ao : Option Addr) (l : List Chk) : Prop where
  lies : 0 < l.length → ∃ b off, ao = some ⟨b, off, none⟩ ∧ ∀ i c, l[i]? = some c → w.cell? ⟨b, off + i * 3, none⟩ = some (.string c.id) ∧ w.cell? ⟨b, off + i * 3 + 1, none⟩ = some (.string c.body) ∧ w.cell? ⟨b, off + i * 3 + 2, none⟩ = some (.int .i64 c.pad)
theorem ChksAt.nil (w : World) (ao : Option Addr) : ChksAt w ao [] := ⟨fun h => absurd h (by simp)⟩
theorem ChksAt.below {w w' : World} {ao : Option Addr} {l : List Chk} (h : ChksAt w ao l) (hB : Below w.heap.size w w') : ChksAt w' ao l := by
  refine ⟨fun h0 => ?_⟩
  obtain ⟨b, off, e, hc⟩ := h.lies h0
  refine ⟨b, off, e, fun i c hi => ?_⟩
  obtain ⟨h0, h1, h2⟩ := hc i c hi
  have k : ∀ o, w'.cell? ⟨b, o, .none⟩ = w.cell? ⟨b, o, .none⟩ := fun o => World.cell?_of_block (w := w) (hB.block b (lt_cell h0))
  exact ⟨by rw [k]; exact h0, by rw [k]; exact h1, by rw [k]; exact h2⟩
theorem ChksAt.own {w : World} {B : Nat} {v : Value} {l : List Chk} (h : w.ownsRow B 55 3 v l.length (ccells l)) : ∃ ao cap, v = .slice ao l.length cap ∧ ChksAt w ao l := by
  rcases h.2 with ⟨e, e0⟩ | ⟨g, cap, cur, e, _⟩
  · exact ⟨.none, 0, by rw [e, e0], ⟨fun q => by omega⟩⟩
  · refine ⟨some ⟨g, 0, .none⟩, cap, e, ⟨fun _ => ⟨g, 0, rfl, fun i c hi => ?_⟩⟩⟩
    subst e
    have hl := (List.getElem?_eq_some_iff.1 hi).1
    obtain ⟨c0, c1, c2⟩ := ccells_get l i c hi
    rw [Nat.zero_add]
    exact ⟨by rw [h.cellAt (i * 3) (by omega), c0], by rw [h.cellAt (i * 3 + 1) (by omega), c1], by rw [h.cellAt (i * 3 + 2) (by omega), c2]⟩
theorem infoK3 : (Tryz.prog.info? 55).map (fun i => (i.zero, i.size, i.bytes)) = some (some (.agg zeroK), 3, 40) := by kernel_rfl
theorem info_parts5 {P : Program} {e : TypeId} {z : Value} {s b : Nat} (h : (P.info? e).map (fun i => (i.zero, i.size, i.bytes)) = some (some z, s, b)) : ∃ i, P.info? e = some i ∧ i.zero = some z ∧ i.size = s ∧ i.bytes = b := by
  cases hi : P.info? e with
  | none => rw [hi] at h; cases h
  | some i =>
    rw [hi] at h
    simp only [Option.map_some, Option.some.injEq, Prod.mk.injEq] at h
    exact ⟨i, rfl, h.1, h.2.1, h.2.2⟩
/-- Append to an owned row, of elements of any size. -/
theorem wpList_append_row {P : Program} (w : World) {ops : Array Oper} {rest : List Oper} {o : Oper} {a : Act} {Q : Exit → Act → World → Prop} (hgd : o.guard = none) (s x : Operand) (t : TypeId)
    (ho : o.op = .call { callee := .builtin .append, args := #[s, x], argTypes := #[t, t] })
    (base : Nat) (e : TypeId) (i : TypeInfo) (z : Value) (size bytes : Nat) (ht : P.underlying t = some (.slice e)) (hi : P.info? e = some i) (hz : i.zero = some z) (hsize : i.size = size) (hby : i.bytes = bytes) (hzs : z.cells.size = size) (hsz : 0 < size)
    (v : Value) (n : Nat) (xs : List Value) (hs : a.eval s = v) (hown : w.ownsRow base e size v n xs)
    (ad : Addr) (m c : Nat) (news : List Value) (hx : a.eval x = .slice (some ad) m c) (hl : news.length = m * size) (hnews : ∀ j u, news[j]? = some u → w.cell? (ad.add j) = some u) (h1 : ∀ u ∈ news, u.oneCell' = true)
    (h63 : n + m ≤ maxLen) (hbytes : (n + m) * bytes ≤ 140737488355328) (hbase : base ≤ w.heap.size)
    (h : ∀ v' w', Hid (w'.ownsRow base e size v' (n + m) (xs ++ news)) → Hid (w.grownBy w' v.ownBlock) → wpList P ops Q rest (a.put o.dst v') w') : wpList P ops Q (o :: rest) a w := by
  refine wpList_plain hgd fun K hK => ?_
  obtain ⟨v', w', hrun, r1, r2, _, _⟩ := run_append_own_at (P := P) w base t o.type e i z size bytes ht hi hz hsize hby hzs hsz v n xs hown ad m c news hl hnews h1 h63 hbytes hbase
  unfold Oper.wp
  simp [execOp, ho, resolve, invoke, builtin, hs, hx, hrun, Result.andThen]
  exact hK _ _ (h v' w' r1 r2)
theorem three_cells {w : World} {v0 v1 v2 : Value} {e : TypeId} (j : Nat) (u : Value) (hj : [v0, v1, v2][j]? = some u) : (w.alloc (.cells #[v0, v1, v2] e)).cell? ((⟨w.heap.size, 0, none⟩ : Addr).add j) = some u := by
  rw [Addr.add_mid, Nat.zero_add, cell_of_row _ _ _ _ _ _ (heap_alloc_new w _)]
  simpa using hj
/-- A list of chunks that grows. -/
structure Gc (w0 : World) (v : Value) (l : List Chk) (w : World) : Prop where
  own : w.ownsRow w0.heap.size 55 3 v l.length (ccells l)
  below : Below w0.heap.size w0 w
theorem Gc.next {w0 w w1 : World} {v : Value} {l : List Chk} (h : Gc w0 v l w) (hB : Below w.heap.size w w1) : Gc w0 v l w1 := ⟨owns_below h.own hB, h.below.trans (hB.mono h.below.size)⟩
theorem Gc.push {w0 w w1 : World} {v v' : Value} {l : List Chk} {c : Chk} (h : Gc w0 v l w) (ho : w1.ownsRow w0.heap.size 55 3 v' (l.length + 1) (ccells l ++ [.string c.id, .string c.body, .int .i64 c.pad])) (hg : w.grownBy w1 v.ownBlock) : Gc w0 v' (l ++ [c]) w1 :=
  ⟨by rw [ccells_snoc, List.length_append]; exact ho, grown_to hg h.below h.below.size (fun k e => (h.own.lt k e).1)⟩
theorem Gc.shape {w0 w : World} {v : Value} {l : List Chk} (h : Gc w0 v l w) : ∃ va vc, v = .slice va l.length vc := by
  rcases h.own.2 with ⟨e, e0⟩ | ⟨g, cap, cur, e, _⟩
  · exact ⟨_, _, by rw [e, e0]⟩
  · exact ⟨_, _, e⟩

set_option maxRecDepth 20000 in
set_option maxHeartbeats 6400000 in
theorem r6chunks_spec (s : ByteArray) (big : Bool) (w : World) (hs : s.size ≤ 140737488351232) :
    Calls Tryz.prog 18 #[.string s, .bool big] w fun e w' => ∃ ao cap, e = .returned (.tuple #[.slice ao (chunksN s big).1.length cap, .int .i64 (chunksN s big).2]) ∧ ChksAt w' ao (chunksN s big).1 ∧ Below w.heap.size w w' := by
  have HG0 : Hid (Gc w noS [] w) := ⟨World.ownsRow_nil _ _ _ _, Below.refl _ _⟩
  have HC0 : Hid (chunksN s big = chunksR s big (s.size + 1) 0 []) := rfl
  obtain ⟨iK, hK0, hK1, hK2, hK3⟩ := info_parts5 infoK3
  have HIK : Hid (Tryz.prog.info? 55 = some iK ∧ iK.zero = some (.agg zeroK) ∧ iK.size = 3 ∧ iK.bytes = 40) := ⟨hK0, hK1, hK2, hK3⟩
  clear hK0 hK1 hK2 hK3
  generalize chunksN s big = R at *
  go_enter Tryz.func18, Tryz.ntmps18
  go_wp2_with fail
  go_loopw [6, 7] (fun g t wr => ∃ (k fuel : Nat) (acc : List Chk), k ≤ s.size ∧ s.size ≤ k + fuel ∧ acc.length ≤ 1024 ∧ t = .int .i64 (k : Int) ∧ R = chunksR s big (fuel + 1) k acc ∧ Gc w g acc wr) (fun _ t _ => s.size - (intOf t).toNat)
  case atStart => exact ⟨0, s.size, [], Nat.zero_le _, by omega, by simp, rfl, HC0.out, HG0.out⟩
  case round =>
    clear HC0 HG0
    obtain ⟨k, fuel, acc, hk, hf, hal, rfl, hR, hg⟩ := hrel
    obtain ⟨va, vc, rfl⟩ := hg.shape
    have HR : Hid (R = chunksR s big (fuel + 1) k acc) := hR
    have HG : Hid (Gc w (.slice va acc.length vc) acc wr) := hg
    clear hR hg
    by_cases hlt : k < s.size
    · have hes : (s.extract k s.size).size ≤ 140737488351232 := by rw [ext_size _ _ _ (by omega) (Nat.le_refl _)]; omega
      cases hb : oneB (s.extract k s.size) big (-1)
      · have ko := r6one_no (s.extract k s.size) big (-1) wr hes (by decide) (by decide) hb
        have HE : Hid (R = ([], 2)) := HR.out.trans (chunksR_bad s big fuel k acc hlt hb)
        clear HR hb
        go_wp2_with fail
        refine ko.mono ?_
        rintro e w2 ⟨rfl, hB⟩
        have HB : Hid (Below w.heap.size w w2) := HG.out.below.trans (hB.mono HG.out.below.size)
        clear ko hB
        go_wp2_with fail
        go_ret2
        exact ⟨none, 0, by rw [HE.out]; rfl, by rw [HE.out]; exact ChksAt.nil _ _, HB.out.alloc HB.out.size _⟩
      · have ko := r6one_yes (s.extract k s.size) big (-1) wr hes (by decide) (by decide) hb
        have hon := oneN_le (s.extract k s.size) big (-1) hb
        rw [ext_size _ _ _ (by omega) (Nat.le_refl _)] at hon
        by_cases h1024 : acc.length = 1024
        · have HE : Hid (R = ([], 5)) := HR.out.trans (chunksR_many s big fuel k acc hlt hb h1024)
          clear HR hb
          generalize oneC (s.extract k s.size) big (-1) = C at *
          generalize oneN (s.extract k s.size) big (-1) = M at *
          have h1i : (acc.length : Int) = 1024 := by omega
          go_wp2_with fail
          refine ko.mono ?_
          rintro e w2 ⟨rfl, hB⟩
          have HB : Hid (Below w.heap.size w w2) := HG.out.below.trans (hB.mono HG.out.below.size)
          clear ko hB
          go_wp2_with fail
          go_ret2
          exact ⟨none, 0, by rw [HE.out]; rfl, by rw [HE.out]; exact ChksAt.nil _ _, HB.out.alloc HB.out.size _⟩
        · have HE : Hid (R = chunksR s big fuel (k + oneN (s.extract k s.size) big (-1)) (acc ++ [oneC (s.extract k s.size) big (-1)])) := HR.out.trans (chunksR_step s big fuel k acc hlt hb h1024)
          clear HR hb
          generalize oneC (s.extract k s.size) big (-1) = C at *
          generalize oneN (s.extract k s.size) big (-1) = M at *
          obtain ⟨fuel', rfl⟩ : ∃ f', fuel = f' + 1 := ⟨fuel - 1, by omega⟩
          have h1b : ((acc.length : Int) == 1024) = false := by rw [beq_eq_false_iff_ne]; omega
          go_wp2_with fail
          refine ko.mono ?_
          rintro e w2 ⟨rfl, hB⟩
          have HG2 : Hid (Gc w (.slice va acc.length vc) acc ((w2.alloc (.cells (chkC C) 55)).alloc (.cells (chkC C) 55))) := ((HG.out.next hB).next ((Below.refl _ _).alloc (Nat.le_refl _) _)).next ((Below.refl _ _).alloc (Nat.le_refl _) _)
          have HNW : Hid (∀ j u, [Value.string C.id, .string C.body, .int .i64 C.pad][j]? = some u → ((w2.alloc (.cells (chkC C) 55)).alloc (.cells (chkC C) 55)).cell? ((⟨w2.heap.size + 1, 0, none⟩ : Addr).add j) = some u) := fun j u hj => by
            have := three_cells (w := w2.alloc (.cells (chkC C) 55)) (e := 55) j u hj
            rwa [show (w2.alloc (.cells (chkC C) 55)).heap.size = w2.heap.size + 1 from by simp] at this
          clear ko hB HG
          go_wp2_with (at_builtin; refine wpList_append_row _ rfl (.tmp 30) (.tmp 32) 25 rfl w.heap.size 55 iK (.agg zeroK) 3 40 Tryz.underlying25 HIK.out.1 HIK.out.2.1 HIK.out.2.2.1 HIK.out.2.2.2 rfl (by decide) (.slice va acc.length vc) acc.length _ rfl HG2.out.own ⟨w2.heap.size + 1, 0, none⟩ 1 1 [.string C.id, .string C.body, .int .i64 C.pad] rfl rfl HNW.out (by simp [Value.oneCell']) (by simp only [maxLen]; omega) (by omega) HG2.out.below.size ?_; intro v6 w6 ho6 hg6)
          have HG6 : Hid (Gc w v6 (acc ++ [C]) w6) := HG2.out.push ho6.out hg6.out
          go_roundw
          case rel => exact ⟨k + M, fuel', acc ++ [C], by omega, by omega, by rw [List.length_append]; simp; omega, by go_num, HE.out, HG6.out⟩
          case measure => simp [intOf]; omega
    · have HE : Hid (R = (acc, 0)) := HR.out.trans (chunksR_end s big fuel k acc hlt)
      clear HR
      obtain ⟨ao, cap, hv, hat⟩ := ChksAt.own HG.out.own
      have HAT : Hid (ChksAt wr ao acc) := hat
      have HBL : Hid (Below w.heap.size w wr) := HG.out.below
      cases hv
      clear hat HG
      go_wp2_with fail
      go_ret2
      exact ⟨va, vc, by rw [HE.out]; rfl, by rw [HE.out]; exact HAT.out, HBL.out⟩

end Go.Proofs.YtaepgjheknkojaaGreat
