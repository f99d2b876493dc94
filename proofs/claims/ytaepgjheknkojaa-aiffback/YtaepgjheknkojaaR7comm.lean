/- Own text: what a COMM says, and the walk of the document's comm, its first ends. -/
import Derived.Test.YtaepgjheknkojaaG4x
import Derived.Test.YtaepgjheknkojaaG6x
import Derived.Test.YtaepgjheknkojaaR6chunk
namespace Go.Proofs.Ytaepgjheknkojaa
open Go.RowKit
set_option linter.unusedSimpArgs false
set_option linter.unusedVariables false

/-- What a COMM says. -/
structure Com where
  rate : Int
  ch : Int
  wd : Int
  smp : Int
  lit : Bool
abbrev comC (x : Com) : Array Value := #[.int .i64 x.rate, .int .i64 x.ch, .int .i64 x.wd, .slice none 0 0, .int .i64 x.smp, .bool x.lit]
abbrev zeroQ : Array Value := #[.int .i64 0, .int .i64 0, .int .i64 0, .slice none 0 0, .int .i64 0, .bool false]
def noCom : Com := ⟨0, 0, 0, 0, false⟩
def noneT : ByteArray := ⟨#[78, 79, 78, 69]⟩
def sowtT : ByteArray := ⟨#[115, 111, 119, 116]⟩
theorem none_list : noneT.toList = [78, 79, 78, 69] := by rw [ByteArray.toList_eq]; rfl
theorem sowt_list : sowtT.toList = [115, 111, 119, 116] := by rw [ByteArray.toList_eq]; rfl
def beI (s : ByteArray) (a b : Nat) : Int := fromBe (bytesOf (s.extract a b))
/-- How long a COMM with a text is. -/
def comN (s : ByteArray) : Nat := 23 + (bytesOf s).getD 22 0 + (23 + (bytesOf s).getD 22 0) % 2
def comLit (s : ByteArray) (c : Bool) : Bool := c && (s.extract 18 22).toList == sowtT.toList
def comX (s : ByteArray) (c : Bool) : Com := ⟨((frV (bytesOf (s.extract 8 18))).1 : Int), beI s 0 2, beI s 6 8, beI s 2 6, comLit s c⟩
def comE (s : ByteArray) (c : Bool) : Int :=
  if (!c && (s.size : Int) != 18) || (c && decide ((s.size : Int) < 23)) then 2 else
  if c && (s.size : Int) != (comN s : Int) then 2 else
  if c && ((s.extract 18 22).toList != noneT.toList && (s.extract 18 22).toList != sowtT.toList) then 3 else
  if ((frV (bytesOf (s.extract 8 18))).2 : Int) != 0 then ((frV (bytesOf (s.extract 8 18))).2 : Int) else
  if beI s 0 2 == 0 then 2 else
  if decide (8 < beI s 0 2) || (beI s 6 8 % 8 != 0 || (decide (beI s 6 8 < 8) || decide (32 < beI s 6 8))) then 3 else
  if decide (1048576 < beI s 2 6) then 5 else 0
def comR (s : ByteArray) (c : Bool) : Com := if comE s c = 0 then comX s c else noCom
end Go.Proofs.Ytaepgjheknkojaa
