/- A slice of acts that came in, opened (layer 7). -/
import Derived.Test.YtolcidilnmjlmaaKeyO
import Derived.Test.YtolcidilnmjlmaaTblSF
namespace Go.Proofs.Ytolcidilnmjlmaa.TblL
open Go.ChangeShapes Go.WideShapes Go.ChangeAt Go.RowKit Go.Deep
open Go.Proofs.Ytolcidilnmjlmaa.Key Go.Proofs.Ytolcidilnmjlmaa.Rw
set_option linter.unusedVariables false
/-- An act: which call, its key, its value. -/
abbrev Ac := Nat × Ky × Int
def encA (a : Ac) : List Value := [.int .u8 (a.1 : Nat), .int .i64 a.2.1.1, .int .i64 a.2.1.2.1, .int .u32 a.2.1.2.2, .int .i64 a.2.2]
def okA (a : Ac) : Prop := a.1 < 256 ∧ ok a.2.1
abbrev RdA (w : World) (ad : Option Addr) (l : List Ac) : Prop := Rw.Rd encA 5 w ad l
structure Acts (w : World) (G : Nat) (a : Option Addr) (len cap : Nat) (ts : List Ac) : Prop where
  len_ : ts.length = len
  le : len ≤ cap
  max : cap ≤ 9223372036854775807
  nil : a = none → cap = 0
  ok : ∀ t ∈ ts, okA t
  rd : RdA w a ts
theorem at5 {w : World} {b o : Nat} {r : Ac} (h : Rw.At encA w b o r) : w.cell? ⟨b, o, none⟩ = some (.int .u8 (r.1 : Nat)) ∧ w.cell? ⟨b, o + 1, none⟩ = some (.int .i64 r.2.1.1) ∧ w.cell? ⟨b, o + 2, none⟩ = some (.int .i64 r.2.1.2.1) ∧ w.cell? ⟨b, o + 3, none⟩ = some (.int .u32 r.2.1.2.2) ∧ w.cell? ⟨b, o + 4, none⟩ = some (.int .i64 r.2.2) := ⟨h 0 _ rfl, h 1 _ rfl, h 2 _ rfl, h 3 _ rfl, h 4 _ rfl⟩
section
variable {H : Type} {enc0 : TypeId × Value → H} {w : World}
end
end Go.Proofs.Ytolcidilnmjlmaa.TblL
