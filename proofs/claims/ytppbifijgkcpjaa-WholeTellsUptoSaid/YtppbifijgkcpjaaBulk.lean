/- What the bound of the second form gives: how long a list can be. -/
import Derived.Test.YtppbifijgkcpjaaLift
namespace Go.Proofs.Ytppbifijgkcpjaa

theorem bulk_pos {H : Type} (d : DataW H) : 0 < Rows.uptoBulk d := by
  cases d <;> first
    | (rename_i l; cases l <;> (simp only [Rows.uptoBulk]; omega))
    | (simp only [Rows.uptoBulk]; omega)
theorem bulk_all {H : Type} : ∀ l : List (DataW H), l.length ≤ Rows.uptoBulkAll l
  | [] => Nat.zero_le _
  | d :: r => by
    have h1 := bulk_pos d
    have h2 := bulk_all r
    simp only [List.length_cons, Rows.uptoBulkAll]
    omega
theorem bulk_le {H : Type} (elems spare : List (DataW H)) : elems.length ≤ Rows.uptoBulk (.slice elems spare) := by
  have h := bulk_all elems
  simp only [Rows.uptoBulk]
  omega
end Go.Proofs.Ytppbifijgkcpjaa
