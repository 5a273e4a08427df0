/-
  2 texts of a proof, joined.
-/
import Derived.Test.YtmbfgolcinniiaaMg26
import Derived.Deep.Slices
import Derived.ChangeSlices
import Derived.LaidMore
import Derived.Lay
import Derived.Lib.LaidTab
import Derived.OpenShut
import Derived.ChangeOld
import Derived.Test.YtmbfgolcinniiaaMg25

/-
  How a message that came in is opened.
-/
namespace Go.Proofs.Ytmbfgolcinniiaa.icC
open Go.ChangeShapes Go.WideShapes Go.ChangeAt Go.RowKit
open Go.Proofs.Ytmbfgolcinniiaa.memC Go.Proofs.Ytmbfgolcinniiaa.genC Go.Proofs.Ytmbfgolcinniiaa.butC Go.Proofs.Ytmbfgolcinniiaa.freeC Go.Proofs.Ytmbfgolcinniiaa.adC
set_option linter.unusedVariables false
section
variable {P : Program} {w : World} {r : Reach} {b0 : Nat} {t : TypeId}
theorem cell_intI {k : IntKind} {ti : TypeId} {v : Value} (hi : P.underlying ti = some (.int k)) (h : Cell.okWide P w r b0 ti v) : ∃ z, v = .int k z ∧ k.min ≤ z ∧ z ≤ k.max := by
  unfold Cell.okWide at h
  rw [hi] at h
  unfold Cell.ok at h
  rw [hi] at h
  cases v <;> simp at h
  obtain ⟨rfl, h1, h2⟩ := h
  exact ⟨_, rfl, h1, h2⟩
end
theorem is_ms : Try.prog.underlying 26 = some (.struct (Try.prog.fieldsOf 26)) := by simp [Program.fieldsOf, Try.underlying26]
theorem ms_data : ((Try.prog.fieldsOf 26)[5]?).map (fun f => (f.type, f.offset)) = some (24, 5) := by kernel_rfl
def msT : List TypeId := [3, 5, 22, 22, 23, 24]
theorem ms_types : Try.prog.cellTypes Try.prog.depth 26 = some msT := by kernel_rfl
theorem ms_cells : Try.prog.cellsOf 26 = 6 := by kernel_rfl
theorem nums_cellsI : Try.prog.cellsOf 24 = 1 := by kernel_rfl
theorem byte_cellsI : Try.prog.cellsOf 5 = 1 := by kernel_rfl
/-- a slice of bytes within a struct that came in -/
theorem open_bytesI {H : Type} {enc : TypeId × Value → H} {w : World} {base : Nat} {spare : Nat → Bool} {held : Bool} {fuel : Nat} {cs : List Value} {x : DataW H × List MemPlace} (hsp : ∀ b, spare b = true)
    (h : DataW.trod enc Try.prog w base spare held fuel 24 cs = some x) :
    ∃ (A : Option Addr) (n c : Nat) (zs : List Int), cs = [.slice A n c] ∧ n ≤ c ∧ c ≤ 9223372036854775807 ∧ Nums .u8 w w.heap.size A n zs ∧ ∀ x ∈ zs, Byte x := by
  rcases open_ints Try.underlying24 Try.underlying5 byte_cellsI h with ⟨hcs, _⟩ | ⟨x, ln, cp, zs, hcs, _, hl', hm, hz, _, hcell', hwz⟩
  · exact ⟨none, 0, 0, [], hcs, Nat.le_refl _, Nat.zero_le _, Nums.none_ 0, by simp⟩
  · unfold maxLen at hm
    rw [hsp, if_pos rfl] at hz
    refine ⟨some x, ln, cp, zs.take ln, hcs, hl', by omega, ⟨by simp; omega, fun hn => ?_⟩, fun n hn => by
      have := hwz n (List.mem_of_mem_take hn)
      simpa [Lit.wf, Byte, IntKind.min, IntKind.max, IntKind.signed, IntKind.bits] using this⟩
    obtain ⟨b, off, spot⟩ := x
    have hc := hcell' 0 (by omega)
    have hspot : spot = none := by simpa [Addr.add] using World.cell?_spot hc
    subst hspot
    refine ⟨b, off, rfl, ?_, fun i hi => ?_⟩
    · have := World.block_lt_of_cell? _ _ hc
      rw [memC.add_plain] at this
      exact this
    · have h1 := hcell' i (by omega)
      have h2 : (zs.take ln).getD i 0 = zs.getD i 0 := by simp [List.getD_eq_getElem?_getD, hi]
      rw [memC.add_plain] at h1
      rw [h2]; exact h1
set_option maxRecDepth 100000 in
set_option maxHeartbeats 1000000 in
/-- a message that came in -/
theorem open_msg {H : Type} {enc : TypeId × Value → H} {w : World} {base : Nat} {spare : Nat → Bool} {held : Bool} {r : Reach} {b0 : Nat} {v : Value} {dt : DataW H} {ps : List MemPlace} (hsp : ∀ b, spare b = true)
    (hval : Value.okWide Try.prog w r b0 26 v) (hd : DataW.Trod enc Try.prog w base spare held 26 v dt ps) :
    ∃ (m : Ms) (A : Option Addr) (n c : Nat) (xs : List Int), v = .agg (msV m A n c) ∧ m.Ok ∧ n ≤ c ∧ c ≤ 9223372036854775807 ∧ Nums .u8 w w.heap.size A n xs ∧ ∀ x ∈ xs, Byte x := by
  obtain ⟨f8, h8, hf8⟩ := Option.map_eq_some_iff.1 ms_data
  obtain ⟨e8, o8⟩ := Prod.mk.inj hf8
  obtain ⟨fuel, hf⟩ := hd
  have ht := is_ms
  obtain ⟨cs, rfl, hsz, ts', hts', _, hcell⟩ : ∃ cs, v = .agg cs ∧ cs.size = Try.prog.cellsOf 26 ∧ Row.okWide Try.prog w r b0 26 cs := by
    simpa [Value.okWide, ht] using hval
  obtain ⟨l⟩ := cs
  have hl : l.length = 6 := by rw [ms_cells] at hsz; simpa using hsz
  rw [ms_types] at hts'
  obtain rfl := Option.some.inj hts'
  have key : ∀ i, i < 6 → ∃ v u, l[i]? = some v ∧ msT[i]? = some u ∧ Cell.okWide Try.prog w r b0 u v := fun i hi => by
    have e : l[i]? = some (l[i]'(by omega)) := List.getElem?_eq_getElem _
    obtain ⟨u, h1, h2⟩ := hcell i (l[i]'(by omega)) (by rw [← e]; simp)
    refine ⟨_, u, e, ?_, h2⟩
    have : i % 6 = i := Nat.mod_eq_of_lt hi
    simpa [msT, this] using h1
  have kI : ∀ (k : IntKind) (T : TypeId) (hT0 : Try.prog.underlying T = some (.int k)) i, i < 6 → msT[i]? = some T → ∃ z, l[i]? = some (.int k z) ∧ k.min ≤ z ∧ z ≤ k.max := fun k T hT0 i hi hT => by
    obtain ⟨v, u, h1, h2, h3⟩ := key i hi
    rw [hT] at h2
    obtain rfl := Option.some.inj h2
    obtain ⟨z, rfl, hz⟩ := cell_intI hT0 h3
    exact ⟨z, h1, hz⟩
  obtain ⟨s0, g0, y0⟩ := kI .i64 _ Try.underlying3 0 (by omega) rfl
  obtain ⟨s1, g1, y1⟩ := kI .u8 _ Try.underlying5 1 (by omega) rfl
  obtain ⟨s2, g2, y2⟩ := kI .u16 _ Try.underlying22 2 (by omega) rfl
  obtain ⟨s3, g3, y3⟩ := kI .u16 _ Try.underlying22 3 (by omega) rfl
  obtain ⟨s4, g4, y4⟩ := kI .u32 _ Try.underlying23 4 (by omega) rfl
  have ecl : (Value.agg { toList := l }).cells.toList = l := by simp [Value.cells]
  rw [ecl] at hf
  obtain ⟨ys, n5, _, _, _, hyl, hg⟩ := DataW.trod_struct ht hf
  have gt8 := hg 5 f8 h8
  rw [e8, o8, nums_cellsI] at gt8
  have l5 : l[5]? = some (l[5]'(by omega)) := List.getElem?_eq_getElem _
  have e5 : (l.drop 5).take 1 = [l[5]'(by omega)] := by rw [List.drop_eq_getElem_cons (by omega)]; rfl
  rw [e5] at gt8
  obtain ⟨A, n, c, xs, hA, hnc, hcm, hX, hXy⟩ : ∃ A n c xs, l[5]? = some (.slice A n c) ∧ n ≤ c ∧ c ≤ 9223372036854775807 ∧ Nums .u8 w w.heap.size A n xs ∧ ∀ x ∈ xs, Byte x := by
    cases hy : ys[5]? with
    | none =>
      have h1 := (Array.getElem?_eq_some_iff.1 h8).1
      have h2 := List.getElem?_eq_none_iff.1 hy
      omega
    | some y =>
      rw [hy] at gt8
      obtain ⟨B, m, d, xs, hcs, h⟩ := open_bytesI hsp gt8
      rw [l5, (List.cons.inj hcs).1]
      exact ⟨B, m, d, xs, rfl, h⟩
  have by64 : ∀ {z : Int}, IntKind.i64.min ≤ z ∧ z ≤ IntKind.i64.max → I64 z := fun {z} h => by simpa [I64, IntKind.min, IntKind.max, IntKind.signed, IntKind.bits] using h
  have by8 : ∀ {z : Int}, IntKind.u8.min ≤ z ∧ z ≤ IntKind.u8.max → Byte z := fun {z} h => by simpa [Byte, IntKind.min, IntKind.max, IntKind.signed, IntKind.bits] using h
  have by32 : ∀ {z : Int}, IntKind.u32.min ≤ z ∧ z ≤ IntKind.u32.max → U32 z := fun {z} h => by simpa [U32, IntKind.min, IntKind.max, IntKind.signed, IntKind.bits] using h
  have by16 : ∀ {z : Int}, IntKind.u16.min ≤ z ∧ z ≤ IntKind.u16.max → U16 z := fun {z} h => by simpa [U16, IntKind.min, IntKind.max, IntKind.signed, IntKind.bits] using h
  refine ⟨⟨s0, s1, s2, s3, s4⟩, A, n, c, xs, ?_, ⟨by64 y0, by8 y1, by16 y2, by16 y3, by32 y4⟩, hnc, hcm, hX, hXy⟩
  unfold msV
  congr 2
  apply List.ext_getElem?
  intro j
  by_cases hj : j < 6
  · match j, hj with
    | 0, _ => exact g0
    | 1, _ => exact g1
    | 2, _ => exact g2
    | 3, _ => exact g3
    | 4, _ => exact g4
    | 5, _ => exact hA
  · rw [List.getElem?_eq_none (by omega), List.getElem?_eq_none (by simp; omega)]
end Go.Proofs.Ytmbfgolcinniiaa.icC

/-
  About: the document's.
-/
namespace Go.Proofs.Ytmbfgolcinniiaa.icC
open Go.ChangeShapes Go.WideShapes Go.ChangeAt Go.RowKit
open Go.Proofs.Ytmbfgolcinniiaa.memC Go.Proofs.Ytmbfgolcinniiaa.genC Go.Proofs.Ytmbfgolcinniiaa.butC Go.Proofs.Ytmbfgolcinniiaa.freeC Go.Proofs.Ytmbfgolcinniiaa.adC
set_option linter.unusedVariables false
theorem cut_headI (A : Option Addr) (n c k : Nat) (h : k ≤ c) (w : World) : (Instr.slice 24 (.slice A n c) none (some (.int .i64 (k : Int))) none).run Try.prog w = .ok (.slice A k c) w := by
  have k1 : (k : Int) ≤ (c : Int) := by omega
  have k2 : (0 : Int) ≤ (k : Int) := by omega
  go_simp
/-- what tells of a packet -/
def abM (k : Int) : Ms := if k = 3 ∨ k = 4 ∨ k = 5 then ⟨k, 0, 0, 0, 0⟩ else zMs
def abN (six : Bool) : Nat := if six then 1232 else 548
def abL (k : Int) (six : Bool) (xs : List Int) : List Int := if k = 3 ∨ k = 4 ∨ k = 5 then xs.take (abN six) else []
/-- a message of the call's own data -/
def MsR (w : World) (m : Ms) (xs : List Int) (e : Ending) (w' : World) : Prop := ∃ A n c, e = .returned (.agg (msV m A n c)) ∧ Own .u8 5 w' w.heap.size (.slice A n c) xs ∧ Below w.heap.size w w'
theorem nums_min {w : World} {B : Nat} {A : Option Addr} {n : Nat} {xs : List Int} (h : Nums .u8 w B A n xs) (k : Nat) : Nums .u8 w B A (min n k) (xs.take k) := by
  have h9 := h.upto (Nat.min_le_left n k)
  have e : xs.take (min n k) = xs.take k := by
    rcases Nat.le_total n k with q | q
    · rw [Nat.min_eq_left q, List.take_of_length_le (by rw [h.len]; omega), List.take_of_length_le (by rw [h.len]; omega)]
    · rw [Nat.min_eq_right q]
  rw [e] at h9
  exact h9
set_option maxRecDepth 100000 in
set_option maxHeartbeats 1000000 in
theorem rabout_any (k : Int) (A : Option Addr) (n c : Nat) (six : Bool) (xs : List Int) (w : World) (hx : Nums .u8 w w.heap.size A n xs) (hn : n ≤ 100000) (hnc : n ≤ c) :
    Calls Try.prog 23 #[.int .i64 k, .slice A n c, .bool six] w (MsR w (abM k) (abL k six xs)) := by
  have hzv := zeroMs
  obtain ⟨W, hW⟩ : ∃ W, W = w.alloc (.cells (msV zMs none 0 0) 26) := ⟨_, rfl⟩
  have HB := Lib.hid (show Below w.heap.size w W by rw [hW]; exact alloc_below _ _)
  have RZ := Lib.hid (show W.heap[w.heap.size]? = some (.cells (msV zMs none 0 0) 26 (0, 0)) by rw [hW]; exact heap_alloc_new _ _)
  have IZ := Lib.hid (msC zMs none 0 0).info
  have OZ := Lib.hid (ms_one zMs none 0 0)
  have BZ := Lib.hid zMs_built
  unfold abM abL
  obtain ⟨ZS, hZS⟩ : ∃ Z, Z = msV zMs none 0 0 := ⟨_, rfl⟩
  simp only [← hZS] at hW hzv RZ IZ OZ BZ
  have EZ := Lib.hid hZS
  clear hZS
  by_cases h1 : k = 3 ∨ k = 4 ∨ k = 5
  rotate_left
  · rw [if_neg h1, if_neg h1]
    have d3 : (k != 3) = true := bne_iff_ne.2 (by omega)
    have d4 : (k != 4) = true := bne_iff_ne.2 (by omega)
    have d5 : (k != 5) = true := bne_iff_ne.2 (by omega)
    clear hx h1
    go_enter Try.func23, Try.ntmps23
    go_upto_region 1 with fail
    rw [← hW]
    clear hW hzv
    go_wp2_with (first
      | (refine adC.wpList_zero rfl 26 rfl ZS BZ.out ?_)
      | (refine wpList_store_row rfl 26 (.tmp 6) (.tmp 18) rfl (w.heap.size) _ rfl rfl _ _ RZ.out IZ.out rfl OZ.out ?_))
    refine bodyPost_ret (v := .agg ZS) (Go.results_cell_row Try.results23 _ _ (w.heap.size) _ _ _ _ (by rfl) (setRow_heap _ _ _ _ _ _ RZ.out) Try.underlying26 rfl IZ.out) rfl ?_
    exact ⟨none, 0, 0, by rw [EZ.out], Own.nil _ _, setR_belowI HB.out (by omega) _⟩
  rw [if_pos h1, if_pos h1]
  have SZ := Lib.hid (show w.heap.size < W.heap.size by rw [hW, alloc_size]; omega)
  have NX := Lib.hid (fun q => nums_min (hx.below HB.out) q)
  have HNn := Lib.hid hn
  have SC := Lib.hid (fun q => cut_headI A n c (min n q) (Nat.le_trans (Nat.min_le_left _ _) hnc))
  obtain ⟨i0, hi0, hz0, hz1, hz2⟩ := info_parts byte_inf
  have I1 := Lib.hid hi0; have I2 := Lib.hid hz0; have I3 := Lib.hid hz1; have I4 := Lib.hid hz2
  have LXS := Lib.hid hx.len
  have IX := Lib.hid (fun (A' : Option Addr) (n' d' : Nat) => (msC ⟨k, 0, 0, 0, 0⟩ A' n' d').info)
  have SX := Lib.hid (fun (A' : Option Addr) (n' d' : Nat) => ms_size zMs ⟨k, 0, 0, 0, 0⟩ none A' 0 0 n' d')
  have OX := Lib.hid (fun (A' : Option Addr) (n' d' : Nat) => ms_one ⟨k, 0, 0, 0, 0⟩ A' n' d')
  have BT := Lib.hid (fun (A' : Option Addr) (n' d' : Nat) => ms_built2 k A' n' d')
  rw [← EZ.out] at SX
  clear hx hn hi0 hz0 hz1 hz2
  by_cases h3 : k = 3
  · have d3 : (k != 3) = false := by rw [h3]; rfl
    clear h1 h3
    cases six
    · have hm : (if (548 : Int) < (n : Int) then (548 : Int) else (n : Int)) = ((min n 548 : Nat) : Int) := by split <;> omega
      have sc := SC.out 548
      have NM := Lib.hid (NX.out 548)
      have E6 : abN false = 548 := rfl
      have ML := Lib.hid (show min n 548 ≤ n from Nat.min_le_left _ _)
      have TL := Lib.hid (show (xs.take 548).length = min n 548 by rw [List.length_take, LXS.out]; omega)
      rw [E6]
      generalize xs.take 548 = zs at *
      generalize min n 548 = n9 at *
      clear SC NX E6
      go_enter Try.func23, Try.ntmps23
      go_upto_region 1 with fail
      rw [← hW]
      clear hW hzv
      go_upto_region 6 with fail
      go_wp2_with (first
        | (at_builtin
           (refine wpList_app _ rfl (.const (.slice none 0 0)) (.tmp 26) _ rfl 5 i0 _ 1 Try.underlying24 I1.out I2.out I3.out I4.out rfl W.heap.size _ [] rfl (Own.nil _ _) w.heap.size _ n9 c zs rfl NM.out (by rw [List.length_nil]; have := HNn.out; have := ML.out; unfold maxLen; omega) (by rw [List.length_nil]; have := HNn.out; have := ML.out; omega) (Nat.le_refl _) ?_)
           intro v6 w6 O hg
           have B6 := Lib.hid (show Below W.heap.size W w6 from (Below.refl W.heap.size W).grown hg (Nat.le_refl _) fun q hq => ((Own.nil _ _ : Own .u8 5 W W.heap.size (.slice none 0 0) []).blk q hq).1)
           rw [List.nil_append] at O
           obtain ⟨A6, c6, ev, -, -, -⟩ := O.form
           rw [TL.out] at ev
           subst ev
           have HO6 := Lib.hid O
           have RZ6 := Lib.hid (show w6.heap[w.heap.size]? = some (.cells ZS 26 (0, 0)) by rw [B6.out.block _ SZ.out]; exact RZ.out)
           have BT6 := Lib.hid (BT.out A6 n9 c6)
           have IX6 := Lib.hid (IX.out A6 n9 c6)
           have SX6 := Lib.hid (SX.out A6 n9 c6)
           have OX6 := Lib.hid (OX.out A6 n9 c6)
           clear hg O)
        | (with_reducible refine at_buildI 26 ?_; refine wpList_runG (by kernel_rfl) _ (built2_runI (T := 26) rfl (by kernel_rfl) (by kernel_rfl) BT6.out) ?_)
        | (refine wpList_store_row rfl 26 (.tmp 6) (.tmp 28) rfl (w.heap.size) _ rfl rfl _ _ RZ6.out IX6.out SX6.out OX6.out ?_))
      refine bodyPost_ret (v := .agg (msV ⟨k, 0, 0, 0, 0⟩ A6 n9 c6)) (Go.results_cell_row Try.results23 _ _ (w.heap.size) _ _ _ _ (by rfl) (setRow_heap _ _ _ _ _ _ RZ6.out) Try.underlying26 rfl IX6.out) rfl ?_
      exact ⟨A6, n9, c6, rfl, (own_otherI HO6.out RZ6.out (by decide)).less HB.out.size, setR_belowI (HB.out.trans (B6.out.mono HB.out.size)) (Nat.le_refl _) _⟩
    · have hm : (if (1232 : Int) < (n : Int) then (1232 : Int) else (n : Int)) = ((min n 1232 : Nat) : Int) := by split <;> omega
      have sc := SC.out 1232
      have NM := Lib.hid (NX.out 1232)
      have E6 : abN true = 1232 := rfl
      have ML := Lib.hid (show min n 1232 ≤ n from Nat.min_le_left _ _)
      have TL := Lib.hid (show (xs.take 1232).length = min n 1232 by rw [List.length_take, LXS.out]; omega)
      rw [E6]
      generalize xs.take 1232 = zs at *
      generalize min n 1232 = n9 at *
      clear SC NX E6
      go_enter Try.func23, Try.ntmps23
      go_upto_region 1 with fail
      rw [← hW]
      clear hW hzv
      go_upto_region 6 with fail
      go_wp2_with (first
        | (at_builtin
           (refine wpList_app _ rfl (.const (.slice none 0 0)) (.tmp 26) _ rfl 5 i0 _ 1 Try.underlying24 I1.out I2.out I3.out I4.out rfl W.heap.size _ [] rfl (Own.nil _ _) w.heap.size _ n9 c zs rfl NM.out (by rw [List.length_nil]; have := HNn.out; have := ML.out; unfold maxLen; omega) (by rw [List.length_nil]; have := HNn.out; have := ML.out; omega) (Nat.le_refl _) ?_)
           intro v6 w6 O hg
           have B6 := Lib.hid (show Below W.heap.size W w6 from (Below.refl W.heap.size W).grown hg (Nat.le_refl _) fun q hq => ((Own.nil _ _ : Own .u8 5 W W.heap.size (.slice none 0 0) []).blk q hq).1)
           rw [List.nil_append] at O
           obtain ⟨A6, c6, ev, -, -, -⟩ := O.form
           rw [TL.out] at ev
           subst ev
           have HO6 := Lib.hid O
           have RZ6 := Lib.hid (show w6.heap[w.heap.size]? = some (.cells ZS 26 (0, 0)) by rw [B6.out.block _ SZ.out]; exact RZ.out)
           have BT6 := Lib.hid (BT.out A6 n9 c6)
           have IX6 := Lib.hid (IX.out A6 n9 c6)
           have SX6 := Lib.hid (SX.out A6 n9 c6)
           have OX6 := Lib.hid (OX.out A6 n9 c6)
           clear hg O)
        | (with_reducible refine at_buildI 26 ?_; refine wpList_runG (by kernel_rfl) _ (built2_runI (T := 26) rfl (by kernel_rfl) (by kernel_rfl) BT6.out) ?_)
        | (refine wpList_store_row rfl 26 (.tmp 6) (.tmp 28) rfl (w.heap.size) _ rfl rfl _ _ RZ6.out IX6.out SX6.out OX6.out ?_))
      refine bodyPost_ret (v := .agg (msV ⟨k, 0, 0, 0, 0⟩ A6 n9 c6)) (Go.results_cell_row Try.results23 _ _ (w.heap.size) _ _ _ _ (by rfl) (setRow_heap _ _ _ _ _ _ RZ6.out) Try.underlying26 rfl IX6.out) rfl ?_
      exact ⟨A6, n9, c6, rfl, (own_otherI HO6.out RZ6.out (by decide)).less HB.out.size, setR_belowI (HB.out.trans (B6.out.mono HB.out.size)) (Nat.le_refl _) _⟩
  have d3 : (k != 3) = true := bne_iff_ne.2 h3
  by_cases h4 : k = 4
  · have d4 : (k != 4) = false := by rw [h4]; rfl
    clear h1 h3 h4
    cases six
    · have hm : (if (548 : Int) < (n : Int) then (548 : Int) else (n : Int)) = ((min n 548 : Nat) : Int) := by split <;> omega
      have sc := SC.out 548
      have NM := Lib.hid (NX.out 548)
      have E6 : abN false = 548 := rfl
      have ML := Lib.hid (show min n 548 ≤ n from Nat.min_le_left _ _)
      have TL := Lib.hid (show (xs.take 548).length = min n 548 by rw [List.length_take, LXS.out]; omega)
      rw [E6]
      generalize xs.take 548 = zs at *
      generalize min n 548 = n9 at *
      clear SC NX E6
      go_enter Try.func23, Try.ntmps23
      go_upto_region 1 with fail
      rw [← hW]
      clear hW hzv
      go_upto_region 6 with fail
      go_wp2_with (first
        | (at_builtin
           (refine wpList_app _ rfl (.const (.slice none 0 0)) (.tmp 26) _ rfl 5 i0 _ 1 Try.underlying24 I1.out I2.out I3.out I4.out rfl W.heap.size _ [] rfl (Own.nil _ _) w.heap.size _ n9 c zs rfl NM.out (by rw [List.length_nil]; have := HNn.out; have := ML.out; unfold maxLen; omega) (by rw [List.length_nil]; have := HNn.out; have := ML.out; omega) (Nat.le_refl _) ?_)
           intro v6 w6 O hg
           have B6 := Lib.hid (show Below W.heap.size W w6 from (Below.refl W.heap.size W).grown hg (Nat.le_refl _) fun q hq => ((Own.nil _ _ : Own .u8 5 W W.heap.size (.slice none 0 0) []).blk q hq).1)
           rw [List.nil_append] at O
           obtain ⟨A6, c6, ev, -, -, -⟩ := O.form
           rw [TL.out] at ev
           subst ev
           have HO6 := Lib.hid O
           have RZ6 := Lib.hid (show w6.heap[w.heap.size]? = some (.cells ZS 26 (0, 0)) by rw [B6.out.block _ SZ.out]; exact RZ.out)
           have BT6 := Lib.hid (BT.out A6 n9 c6)
           have IX6 := Lib.hid (IX.out A6 n9 c6)
           have SX6 := Lib.hid (SX.out A6 n9 c6)
           have OX6 := Lib.hid (OX.out A6 n9 c6)
           clear hg O)
        | (with_reducible refine at_buildI 26 ?_; refine wpList_runG (by kernel_rfl) _ (built2_runI (T := 26) rfl (by kernel_rfl) (by kernel_rfl) BT6.out) ?_)
        | (refine wpList_store_row rfl 26 (.tmp 6) (.tmp 28) rfl (w.heap.size) _ rfl rfl _ _ RZ6.out IX6.out SX6.out OX6.out ?_))
      refine bodyPost_ret (v := .agg (msV ⟨k, 0, 0, 0, 0⟩ A6 n9 c6)) (Go.results_cell_row Try.results23 _ _ (w.heap.size) _ _ _ _ (by rfl) (setRow_heap _ _ _ _ _ _ RZ6.out) Try.underlying26 rfl IX6.out) rfl ?_
      exact ⟨A6, n9, c6, rfl, (own_otherI HO6.out RZ6.out (by decide)).less HB.out.size, setR_belowI (HB.out.trans (B6.out.mono HB.out.size)) (Nat.le_refl _) _⟩
    · have hm : (if (1232 : Int) < (n : Int) then (1232 : Int) else (n : Int)) = ((min n 1232 : Nat) : Int) := by split <;> omega
      have sc := SC.out 1232
      have NM := Lib.hid (NX.out 1232)
      have E6 : abN true = 1232 := rfl
      have ML := Lib.hid (show min n 1232 ≤ n from Nat.min_le_left _ _)
      have TL := Lib.hid (show (xs.take 1232).length = min n 1232 by rw [List.length_take, LXS.out]; omega)
      rw [E6]
      generalize xs.take 1232 = zs at *
      generalize min n 1232 = n9 at *
      clear SC NX E6
      go_enter Try.func23, Try.ntmps23
      go_upto_region 1 with fail
      rw [← hW]
      clear hW hzv
      go_upto_region 6 with fail
      go_wp2_with (first
        | (at_builtin
           (refine wpList_app _ rfl (.const (.slice none 0 0)) (.tmp 26) _ rfl 5 i0 _ 1 Try.underlying24 I1.out I2.out I3.out I4.out rfl W.heap.size _ [] rfl (Own.nil _ _) w.heap.size _ n9 c zs rfl NM.out (by rw [List.length_nil]; have := HNn.out; have := ML.out; unfold maxLen; omega) (by rw [List.length_nil]; have := HNn.out; have := ML.out; omega) (Nat.le_refl _) ?_)
           intro v6 w6 O hg
           have B6 := Lib.hid (show Below W.heap.size W w6 from (Below.refl W.heap.size W).grown hg (Nat.le_refl _) fun q hq => ((Own.nil _ _ : Own .u8 5 W W.heap.size (.slice none 0 0) []).blk q hq).1)
           rw [List.nil_append] at O
           obtain ⟨A6, c6, ev, -, -, -⟩ := O.form
           rw [TL.out] at ev
           subst ev
           have HO6 := Lib.hid O
           have RZ6 := Lib.hid (show w6.heap[w.heap.size]? = some (.cells ZS 26 (0, 0)) by rw [B6.out.block _ SZ.out]; exact RZ.out)
           have BT6 := Lib.hid (BT.out A6 n9 c6)
           have IX6 := Lib.hid (IX.out A6 n9 c6)
           have SX6 := Lib.hid (SX.out A6 n9 c6)
           have OX6 := Lib.hid (OX.out A6 n9 c6)
           clear hg O)
        | (with_reducible refine at_buildI 26 ?_; refine wpList_runG (by kernel_rfl) _ (built2_runI (T := 26) rfl (by kernel_rfl) (by kernel_rfl) BT6.out) ?_)
        | (refine wpList_store_row rfl 26 (.tmp 6) (.tmp 28) rfl (w.heap.size) _ rfl rfl _ _ RZ6.out IX6.out SX6.out OX6.out ?_))
      refine bodyPost_ret (v := .agg (msV ⟨k, 0, 0, 0, 0⟩ A6 n9 c6)) (Go.results_cell_row Try.results23 _ _ (w.heap.size) _ _ _ _ (by rfl) (setRow_heap _ _ _ _ _ _ RZ6.out) Try.underlying26 rfl IX6.out) rfl ?_
      exact ⟨A6, n9, c6, rfl, (own_otherI HO6.out RZ6.out (by decide)).less HB.out.size, setR_belowI (HB.out.trans (B6.out.mono HB.out.size)) (Nat.le_refl _) _⟩
  have d4 : (k != 4) = true := bne_iff_ne.2 h4
  have d5 : (k != 5) = false := by
    have : k = 5 := by omega
    rw [this]; rfl
  clear h1 h3 h4
  cases six
  · have hm : (if (548 : Int) < (n : Int) then (548 : Int) else (n : Int)) = ((min n 548 : Nat) : Int) := by split <;> omega
    have sc := SC.out 548
    have NM := Lib.hid (NX.out 548)
    have E6 : abN false = 548 := rfl
    have ML := Lib.hid (show min n 548 ≤ n from Nat.min_le_left _ _)
    have TL := Lib.hid (show (xs.take 548).length = min n 548 by rw [List.length_take, LXS.out]; omega)
    rw [E6]
    generalize xs.take 548 = zs at *
    generalize min n 548 = n9 at *
    clear SC NX E6
    go_enter Try.func23, Try.ntmps23
    go_upto_region 1 with fail
    rw [← hW]
    clear hW hzv
    go_upto_region 6 with fail
    go_wp2_with (first
      | (at_builtin
         (refine wpList_app _ rfl (.const (.slice none 0 0)) (.tmp 26) _ rfl 5 i0 _ 1 Try.underlying24 I1.out I2.out I3.out I4.out rfl W.heap.size _ [] rfl (Own.nil _ _) w.heap.size _ n9 c zs rfl NM.out (by rw [List.length_nil]; have := HNn.out; have := ML.out; unfold maxLen; omega) (by rw [List.length_nil]; have := HNn.out; have := ML.out; omega) (Nat.le_refl _) ?_)
         intro v6 w6 O hg
         have B6 := Lib.hid (show Below W.heap.size W w6 from (Below.refl W.heap.size W).grown hg (Nat.le_refl _) fun q hq => ((Own.nil _ _ : Own .u8 5 W W.heap.size (.slice none 0 0) []).blk q hq).1)
         rw [List.nil_append] at O
         obtain ⟨A6, c6, ev, -, -, -⟩ := O.form
         rw [TL.out] at ev
         subst ev
         have HO6 := Lib.hid O
         have RZ6 := Lib.hid (show w6.heap[w.heap.size]? = some (.cells ZS 26 (0, 0)) by rw [B6.out.block _ SZ.out]; exact RZ.out)
         have BT6 := Lib.hid (BT.out A6 n9 c6)
         have IX6 := Lib.hid (IX.out A6 n9 c6)
         have SX6 := Lib.hid (SX.out A6 n9 c6)
         have OX6 := Lib.hid (OX.out A6 n9 c6)
         clear hg O)
      | (with_reducible refine at_buildI 26 ?_; refine wpList_runG (by kernel_rfl) _ (built2_runI (T := 26) rfl (by kernel_rfl) (by kernel_rfl) BT6.out) ?_)
      | (refine wpList_store_row rfl 26 (.tmp 6) (.tmp 28) rfl (w.heap.size) _ rfl rfl _ _ RZ6.out IX6.out SX6.out OX6.out ?_))
    refine bodyPost_ret (v := .agg (msV ⟨k, 0, 0, 0, 0⟩ A6 n9 c6)) (Go.results_cell_row Try.results23 _ _ (w.heap.size) _ _ _ _ (by rfl) (setRow_heap _ _ _ _ _ _ RZ6.out) Try.underlying26 rfl IX6.out) rfl ?_
    exact ⟨A6, n9, c6, rfl, (own_otherI HO6.out RZ6.out (by decide)).less HB.out.size, setR_belowI (HB.out.trans (B6.out.mono HB.out.size)) (Nat.le_refl _) _⟩
  · have hm : (if (1232 : Int) < (n : Int) then (1232 : Int) else (n : Int)) = ((min n 1232 : Nat) : Int) := by split <;> omega
    have sc := SC.out 1232
    have NM := Lib.hid (NX.out 1232)
    have E6 : abN true = 1232 := rfl
    have ML := Lib.hid (show min n 1232 ≤ n from Nat.min_le_left _ _)
    have TL := Lib.hid (show (xs.take 1232).length = min n 1232 by rw [List.length_take, LXS.out]; omega)
    rw [E6]
    generalize xs.take 1232 = zs at *
    generalize min n 1232 = n9 at *
    clear SC NX E6
    go_enter Try.func23, Try.ntmps23
    go_upto_region 1 with fail
    rw [← hW]
    clear hW hzv
    go_upto_region 6 with fail
    go_wp2_with (first
      | (at_builtin
         (refine wpList_app _ rfl (.const (.slice none 0 0)) (.tmp 26) _ rfl 5 i0 _ 1 Try.underlying24 I1.out I2.out I3.out I4.out rfl W.heap.size _ [] rfl (Own.nil _ _) w.heap.size _ n9 c zs rfl NM.out (by rw [List.length_nil]; have := HNn.out; have := ML.out; unfold maxLen; omega) (by rw [List.length_nil]; have := HNn.out; have := ML.out; omega) (Nat.le_refl _) ?_)
         intro v6 w6 O hg
         have B6 := Lib.hid (show Below W.heap.size W w6 from (Below.refl W.heap.size W).grown hg (Nat.le_refl _) fun q hq => ((Own.nil _ _ : Own .u8 5 W W.heap.size (.slice none 0 0) []).blk q hq).1)
         rw [List.nil_append] at O
         obtain ⟨A6, c6, ev, -, -, -⟩ := O.form
         rw [TL.out] at ev
         subst ev
         have HO6 := Lib.hid O
         have RZ6 := Lib.hid (show w6.heap[w.heap.size]? = some (.cells ZS 26 (0, 0)) by rw [B6.out.block _ SZ.out]; exact RZ.out)
         have BT6 := Lib.hid (BT.out A6 n9 c6)
         have IX6 := Lib.hid (IX.out A6 n9 c6)
         have SX6 := Lib.hid (SX.out A6 n9 c6)
         have OX6 := Lib.hid (OX.out A6 n9 c6)
         clear hg O)
      | (with_reducible refine at_buildI 26 ?_; refine wpList_runG (by kernel_rfl) _ (built2_runI (T := 26) rfl (by kernel_rfl) (by kernel_rfl) BT6.out) ?_)
      | (refine wpList_store_row rfl 26 (.tmp 6) (.tmp 28) rfl (w.heap.size) _ rfl rfl _ _ RZ6.out IX6.out SX6.out OX6.out ?_))
    refine bodyPost_ret (v := .agg (msV ⟨k, 0, 0, 0, 0⟩ A6 n9 c6)) (Go.results_cell_row Try.results23 _ _ (w.heap.size) _ _ _ _ (by rfl) (setRow_heap _ _ _ _ _ _ RZ6.out) Try.underlying26 rfl IX6.out) rfl ?_
    exact ⟨A6, n9, c6, rfl, (own_otherI HO6.out RZ6.out (by decide)).less HB.out.size, setR_belowI (HB.out.trans (B6.out.mono HB.out.size)) (Nat.le_refl _) _⟩
end Go.Proofs.Ytmbfgolcinniiaa.icC
