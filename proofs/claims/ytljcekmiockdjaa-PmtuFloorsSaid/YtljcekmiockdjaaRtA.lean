/-
  Ways as values: their cells, as keys of a map, '==' of them.
-/
import Derived.Test.YtljcekmiockdjaaBxC
import Derived.Deep.CutRange
import Derived.Maps.OwnSet
import Derived.DeepKeys4
namespace Go.Proofs.Ytljcekmiockdjaa.rtC
open Go.ChangeShapes Go.WideShapes Go.ChangeAt Go.RowKit
open Go.Proofs.Ytljcekmiockdjaa.memC Go.Proofs.Ytljcekmiockdjaa.genC Go.Proofs.Ytljcekmiockdjaa.butC Go.Proofs.Ytljcekmiockdjaa.freeC Go.Proofs.Ytljcekmiockdjaa.adC
open Go.Maps (Keyed)
set_option linter.unusedVariables false
def adrK (s : Bool) (b : List Int) : List Value := .bool s :: b.map (Value.int .u8)
theorem adrK_len {s : Bool} {b : List Int} (h : b.length = 16) : (adrK s b).length = 17 := by simp [adrK, h]
/-! ### ways as keys -/
theorem byte_wf {z : Int} (h : Byte z) : (Lit.int .u8 z).wf = true := by
  unfold Byte at h
  simp [Lit.wf, IntKind.min, IntKind.max, IntKind.signed, IntKind.bits]
  omega
theorem key_byte (d : Nat) {z : Int} (h : Byte z) : Try.prog.keyLits (d + 1) 5 [.int .u8 z] = some [.int .u8 z] := by
  unfold Program.keyLits
  rw [Try.underlying5]
  simp [byte_wf h]
theorem key_int (d : Nat) {z : Int} (h : -9223372036854775808 ≤ z ∧ z ≤ 9223372036854775807) : Try.prog.keyLits (d + 1) 3 [.int .i64 z] = some [.int .i64 z] := by
  unfold Program.keyLits
  rw [Try.underlying3]
  have : (Lit.int .i64 z).wf = true := by
    simp [Lit.wf, IntKind.min, IntKind.max, IntKind.signed, IntKind.bits]
    omega
  simp [this]
theorem key_bool (d : Nat) (x : Bool) : Try.prog.keyLits (d + 1) 4 [.bool x] = some [.bool x] := by
  unfold Program.keyLits
  rw [Try.underlying4]
theorem cells_byte : Try.prog.cellsOf 5 = 1 := by kernel_rfl
theorem cells_arr : Try.prog.cellsOf 22 = 16 := by kernel_rfl
theorem key_arr (d : Nat) {b : List Int} (hl : b.length = 16) (h : ∀ x ∈ b, Byte x) : ∃ l, Try.prog.keyLits (d + 2) 22 (b.map (Value.int .u8)) = some l := by
  unfold Program.keyLits
  rw [Try.underlying22]
  simp only [List.length_map, hl, cells_arr, if_true, cells_byte, Nat.mul_one]
  have hm : ∀ (is : List Nat), (∀ i ∈ is, i < 16) → ∃ l, is.mapM (fun i => Try.prog.keyLits (d + 1) 5 (((b.map (Value.int .u8)).drop i).take 1)) = some l := by
    intro is
    induction is with
    | nil => intro _; exact ⟨[], rfl⟩
    | cons i r ih =>
      intro hi
      obtain ⟨l, hl2⟩ := ih fun j hj => hi j (by simp [hj])
      have h16 : i < b.length := by rw [hl]; exact hi i (by simp)
      have e : ((b.map (Value.int .u8)).drop i).take 1 = [.int .u8 b[i]] := by
        rw [List.drop_eq_getElem_cons (by rw [List.length_map]; exact h16)]
        simp
      refine ⟨[.int .u8 b[i]] :: l, ?_⟩
      rw [List.mapM_cons, e, key_byte d (h _ (List.getElem_mem h16)), hl2]
      rfl
  obtain ⟨l, hl2⟩ := hm (List.range 16) (fun i hi => List.mem_range.1 hi)
  exact ⟨l.flatten, by rw [hl2]; rfl⟩
theorem fields_adr : Try.prog.underlying 24 = some (.struct (Try.prog.fieldsOf 24)) := by simp [Program.fieldsOf, Try.underlying24]
theorem fields_adr_list : (Try.prog.fieldsOf 24).toList.map (fun f => (f.type, f.offset, Try.prog.cellsOf f.type)) = [(4, 0, 1), (22, 1, 16)] := by kernel_rfl
theorem fields_adr_all : (Try.prog.fieldsOf 24).all (·.name != "_") = true := by kernel_rfl
theorem cells_adr : Try.prog.cellsOf 24 = 17 := by kernel_rfl
theorem mapM_fields (d : Nat) (cs : List Value) : ∀ (fs : List Field), fs.mapM (fun f => Try.prog.keyLits d f.type ((cs.drop f.offset).take (Try.prog.cellsOf f.type))) = (fs.map (fun f => (f.type, f.offset, Try.prog.cellsOf f.type))).mapM (fun x => Try.prog.keyLits d x.1 ((cs.drop x.2.1).take x.2.2))
  | [] => rfl
  | f :: r => by
    rw [List.mapM_cons, List.map_cons, List.mapM_cons, mapM_fields d cs r]
theorem key_addr (d : Nat) (s : Bool) {b : List Int} (hl : b.length = 16) (h : ∀ x ∈ b, Byte x) : ∃ l, Try.prog.keyLits (d + 3) 24 (adrK s b) = some l := by
  unfold Program.keyLits
  rw [fields_adr]
  simp only [adrK_len hl, cells_adr, fields_adr_all, true_and, if_true]
  obtain ⟨l, hl2⟩ := key_arr d hl h
  have e1 : ((adrK s b).drop 0).take 1 = [.bool s] := rfl
  have e2 : ((adrK s b).drop 1).take 16 = b.map (Value.int .u8) := by
    show (b.map (Value.int .u8)).take 16 = _
    rw [List.take_of_length_le (by rw [List.length_map, hl]; exact Nat.le_refl _)]
  refine ⟨([[.bool s], l]).flatten, ?_⟩
  rw [mapM_fields, fields_adr_list, List.mapM_cons]
  simp only [e1]
  rw [key_bool, List.mapM_cons]
  simp only [e2]
  rw [hl2]
  rfl
end Go.Proofs.Ytljcekmiockdjaa.rtC
