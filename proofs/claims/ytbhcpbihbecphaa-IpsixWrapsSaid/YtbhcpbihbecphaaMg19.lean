/-
  1 texts of a proof, joined.
-/
import Derived.Test.YtbhcpbihbecphaaMg18
import Derived.Lib.SlBytesConst
import Derived.Lib.AppendStr

/-
  Traffic keys: what Key of the code does.
-/
namespace Go.Proofs.Ytbhcpbihbecphaa.kdC
open Go.ChangeShapes Go.WideShapes Go.ChangeAt Go.RowKit
open Go.Proofs.Ytbhcpbihbecphaa.memC Go.Proofs.Ytbhcpbihbecphaa.genC Go.Proofs.Ytbhcpbihbecphaa.aesC Go.Proofs.Ytbhcpbihbecphaa.butC Go.Proofs.Ytbhcpbihbecphaa.freeC Go.Proofs.Ytbhcpbihbecphaa.partsC
set_option linter.unusedVariables false
theorem numL_byte (s : Nat) (x : Int) : ∀ y ∈ octC.numL s x, Byte y := by
  induction s with
  | zero => simp [octC.numL]
  | succ s ih =>
    intro y hy
    rcases List.mem_cons.1 hy with rfl | h
    · unfold octC.byteAt Byte; omega
    · exact ih y h
theorem putL_byte {bs : List Int} (h : ∀ x ∈ bs, Byte x) (s : Nat) (ns : List Int) : ∀ y ∈ octC.putL bs s ns, Byte y := by
  intro y hy
  rcases List.mem_append.1 hy with h1 | h1
  · exact h y h1
  · obtain ⟨n, _, h2⟩ := List.mem_flatMap.1 h1
    exact numL_byte s n y h2
/-- some bytes that are the call's own, of a number of their own -/
def BytesRet (w : World) (N : Nat) (T : List Int) (e : Ending) (w' : World) : Prop := ∃ A c, e = .returned (.slice A N c) ∧ Own .u8 5 w' w.heap.size (.slice A N c) T ∧ Key w' A N c T ∧ Below w.heap.size w w'
theorem bytes_ret {w w' : World} {e : Ending} {v : Value} {N : Nat} {T : List Int} (he : e = .returned v) (O : Own .u8 5 w' w.heap.size v T) (B : Below w.heap.size w w') (hN : T.length = N) (hy : ∀ x ∈ T, Byte x) : BytesRet w N T e w' := by
  obtain ⟨A, c, rfl, h1, h2, N1⟩ := O.form
  rw [hN] at he O N1 h1
  exact ⟨A, c, he, O, ⟨N1, hy, h1, h2⟩, B⟩
theorem put_key {A : Option Addr} {n c : Nat} {P : Option Addr} {m c2 : Nat} {bs ns : List Int} {w : World} (s : Nat) (z : Int) (N : Nat) (T : List Int) (hz : (s : Int) = z) (hs : s ≤ 8) (hb : Key w A n c bs) (hns : Nums .u64 w w.heap.size P m ns) (hn : n ≤ 3000) (hm : m ≤ 300)
    (hT : octC.putL bs s ns = T) (hN : T.length = N) : Calls Try.prog 23 #[.slice A n c, .int .i64 z, .slice P m c2] w (BytesRet w N T) := by
  subst hz
  have e : octC.fitN (s : Int) = s := by unfold octC.fitN; omega
  refine (octC.put_any A n c s P m c2 bs ns w (by omega) (by omega) hb.nums hns hn hm).mono fun e' w' ⟨v, h1, h2, h3⟩ => ?_
  rw [e, hT] at h2
  exact bytes_ret h1 h2 h3 hN (by rw [← hT]; exact putL_byte hb.byte _ _)
end Go.Proofs.Ytbhcpbihbecphaa.kdC
