/-
  The row of a machine's quotes (own work): all of its block is known, so that a quote may be put behind it. No condition.
-/
import Derived.Test.YtdbbiibnhgcndaaOwn
import Derived.Deep.AppendLies
namespace Go.Proofs.Ytdbbiibnhgcndaa
open Go.RowKit

def QRow (n0 : Nat) (w : World) (M : Mv) : Prop := w.ownsRow n0 69 2 (.slice M.qa M.qus.length M.qcap) M.qus.length (M.qus.flatMap Qu.cells)
theorem QRow.keep {n0 : Nat} {w w' : World} {M : Mv} (h : QRow n0 w M) (hw : ∀ b o s, M.qa = some ⟨b, o, s⟩ → w'.heap[b]? = w.heap[b]?) : QRow n0 w' M := by
  refine ⟨h.1, ?_⟩
  rcases h.2 with h2 | ⟨g, cap, cur, hv, hb, hg, h3⟩
  · exact .inl h2
  · refine .inr ⟨g, cap, cur, hv, hb, ?_, h3⟩
    simp only [Value.slice.injEq] at hv
    rw [hw g 0 none hv.1]
    exact hg
theorem QRow.mono {n0 n1 : Nat} {w : World} {M : Mv} (h : QRow n0 w M) (hn : n1 ≤ n0) : QRow n1 w M := by
  refine ⟨h.1, ?_⟩
  rcases h.2 with h2 | ⟨g, cap, cur, hv, hb, h3⟩
  · exact .inl h2
  · exact .inr ⟨g, cap, cur, hv, Nat.le_trans hn hb, h3⟩
theorem QRow.of_block {n0 : Nat} {w : World} {M : Mv} {Z : Nat} {zs : List Value} (hZ : n0 ≤ Z) (ha : M.qa = some ⟨Z, 0, none⟩) (h : w.heap[Z]? = some (.cells (M.qus.flatMap Qu.cells ++ zs).toArray 69 (0, 0))) (hc : (M.qus.flatMap Qu.cells ++ zs).length = M.qcap * 2) (hl : M.qus.length ≤ M.qcap) (hm : M.qcap ≤ maxLen) : QRow n0 w M := by
  have hf : (M.qus.flatMap Qu.cells).length = M.qus.length * 2 := flat_len (cells := Qu.cells) (c := 2) (fun _ => rfl) M.qus
  refine ⟨hf, .inr ⟨Z, M.qcap, _, by rw [ha], hZ, h, hl, hm, by simpa using hc, ?_⟩⟩
  rw [← hf]
  simp
theorem QRow.none {n0 : Nat} {w : World} {M : Mv} (ha : M.qa = none) (hq : M.qus = []) (hc : M.qcap = 0) : QRow n0 w M := by
  refine ⟨by rw [hq]; rfl, .inl ⟨by rw [ha, hq, hc]; rfl, by rw [hq]; rfl⟩⟩

end Go.Proofs.Ytdbbiibnhgcndaa
