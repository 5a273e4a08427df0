/-
  3 texts of a proof, joined.
-/
import Derived.Test.YtdoahlhkbhpgpaaDoorMg15
import Derived.Test.YtdoahlhkbhpgpaaDoorMg5
import Derived.Test.YtdoahlhkbhpgpaaDoorMg12
import Derived.Deep.OwnRows
import Derived.StillTactics
import Derived.StillTailTactics
import Derived.Laws.BitsAllLaws
import Derived.Deep.CutRange

namespace Go.Proofs.YtdoahlhkbhpgpaaDoor.adC
open Go.ChangeShapes Go.WideShapes Go.ChangeAt Go.RowKit
open Go.Proofs.YtdoahlhkbhpgpaaDoor.memC Go.Proofs.YtdoahlhkbhpgpaaDoor.genC Go.Proofs.YtdoahlhkbhpgpaaDoor.butC Go.Proofs.YtdoahlhkbhpgpaaDoor.freeC Go.Proofs.YtdoahlhkbhpgpaaDoor.txC
set_option linter.unusedVariables false
set_option maxRecDepth 100000 in
theorem ifmt16 (u : Nat) (hu : u < 65536) (w : World) (hg : Gb w) : Calls Tryd.prog 33 #[.int .u64 u, .int .i64 16] w (Ret w (.string (strOfNums (hexL u)))) := by
  have FB := Lib.hid (bits16 u hu w hg)
  have h2 : (u : Int) < 65536 := by omega
  clear hg
  generalize strOfNums (hexL u) = S at *
  go_enter Tryd.func33, Tryd.ntmps33
  go_wp2_with (first | (go_at_call 46; (with_reducible refine FB.out.mono ?_); rintro e w1 ⟨rfl, B1⟩
                        have B1 := Lib.hid B1))
  go_ret
  exact ⟨rfl, B1.out⟩
set_option maxRecDepth 100000 in
theorem fmt16_any (u : Nat) (hu : u < 65536) (w : World) (hg : Gb w) : Calls Tryd.prog 26 #[.int .u64 u, .int .i64 16] w (Ret w (.string (strOfNums (hexL u)))) := by
  have IF := Lib.hid (ifmt16 u hu w hg)
  have h2 : (u : Int) < 65536 := by omega
  clear hg
  generalize strOfNums (hexL u) = S at *
  go_enter Tryd.func26, Tryd.ntmps26
  go_wp2_with (first | (go_at_call 33; (with_reducible refine IF.out.mono ?_); rintro e w1 ⟨rfl, B1⟩
                        have B1 := Lib.hid B1))
  go_ret
  exact ⟨rfl, B1.out⟩
/-- texts put together, with a text between -/
def joinL (sep : List Int) : List (List Int) → List Int
  | [] => []
  | [l] => l
  | l :: m :: r => l ++ sep ++ joinL sep (m :: r)
theorem joinL_len (sep : List Int) : ∀ (ls : List (List Int)) (m : Nat), (∀ l ∈ ls, l.length ≤ m) → (joinL sep ls).length ≤ ls.length * (m + sep.length)
  | [], m, _ => by simp [joinL]
  | [l], m, h => by have := h l (by simp); simp [joinL]; omega
  | l :: k :: r, m, h => by
    have h1 := h l (by simp)
    have h2 := joinL_len sep (k :: r) m fun x hx => h x (by simp only [List.mem_cons] at hx ⊢; exact .inr hx)
    unfold joinL
    rw [List.length_append, List.length_append, List.length_cons, Nat.succ_mul]
    omega
theorem join_is (sep : List Int) : ∀ ls : List (List Int), Lib.join ((ls.map strOfNums).map (·.data.toList)) (sep.map toB) = (joinL sep ls).map toB
  | [] => rfl
  | [l] => by
    show List.intercalate _ _ = _
    simp [List.intercalate, joinL, str_data]
  | l :: k :: r => by
    have ih := join_is sep (k :: r)
    unfold Lib.join at ih ⊢
    rw [List.map_cons, List.map_cons] at ih
    rw [List.map_cons, List.map_cons, List.map_cons, List.map_cons]
    rw [List.intercalate_cons_cons, ih]
    have e : joinL sep (l :: k :: r) = l ++ sep ++ joinL sep (k :: r) := rfl
    rw [e, List.map_append, List.map_append, str_data]
theorem join_any (ls : List (List Int)) (sep : List Int) (base : Nat) (A : Option Addr) (n c : Nat) (w : World) (O : OwnT w base (.slice A n c) ls) (hl : ls.length = n) (hc : n ≤ c) (hn : n ≤ 100) (hb : (joinL sep ls).length ≤ 2000000) (Sp : ByteArray) (hSp : Sp = strOfNums sep) :
    Calls Tryd.prog 27 #[.slice A n c, .string Sp] w (Ret w (.string (strOfNums (joinL sep ls)))) := by
  subst hl hSp
  have hj := join_is sep ls
  have hjl := congrArg List.length hj
  rw [List.length_map] at hjl
  have hfin : (⟨(Lib.join ((ls.map strOfNums).map (·.data.toList)) (strOfNums sep).data.toList).toArray⟩ : ByteArray) = strOfNums (joinL sep ls) := by
    rw [str_data, hj]; rfl
  by_cases h0 : ls = []
  · subst h0
    exact (Tryd.strings_Join_none A c (strOfNums sep) w).mono fun e w' ⟨he, hw⟩ => ⟨he, by rw [hw]; exact Below.refl _ _⟩
  · have hp : 0 < ls.length := List.length_pos_iff.2 h0
    obtain ⟨g, rfl, hg1, hg2, hcell, hfr⟩ := O.row rfl hp
    have := (Tryd.strings_Join g 0 c (ls.map strOfNums) (strOfNums sep) w (fun j x hx => by
      rw [List.getElem?_map] at hx
      have hj2 : j < ls.length := by
        rcases Nat.lt_or_ge j ls.length with h | h
        · exact h
        · rw [List.getElem?_eq_none h] at hx; cases hx
      rw [Nat.zero_add, hcell j hj2, List.getD_eq_getElem?_getD]
      rw [List.getElem?_eq_getElem hj2] at hx ⊢
      exact congrArg (fun q => some (Value.string q)) (Option.some.inj hx)) hg2 (by rw [List.length_map]; omega) (by rw [List.length_map]; exact hc) (by rw [str_data]; omega))
    rw [List.length_map] at this
    exact this.mono fun e w' ⟨he, hw⟩ => ⟨by rw [he, hfin], hw⟩
set_option maxRecDepth 100000 in
set_option maxHeartbeats 2000000 in
theorem join8 (A : Option Addr) (n c : Nat) (gs : List Int) (w : World) (hg : Gb w) (hb : Nums .u8 w w.heap.size A n gs) (hy : ∀ x ∈ gs, Byte x) (hn : n ≤ 16) :
    Calls Tryd.prog 16 #[.slice A n c, .int .i64 10, .string ⟨#[46]⟩] w (Ret w (.string (strOfNums (joinL [46] (gs.map fun x => tenL x.toNat))))) := by
  obtain ⟨i0, hi0, hz0, hz1, hz2⟩ := info_parts string_inf
  have T1 := Lib.hid hi0; have T2 := Lib.hid hz0; have T3 := Lib.hid hz1; have T4 := Lib.hid hz2
  have b2 : i0.bytes * n ≤ 281474976710656 := by rw [hz2]; omega
  have HG := Lib.hid hg
  have HN := Lib.hid hb
  have HY := Lib.hid hy
  have HL := Lib.hid hb.len
  have HLB := Lib.hid (show (joinL [46] (gs.map fun x => tenL x.toNat)).length ≤ 2000000 by
    refine Nat.le_trans (joinL_len [46] _ 65540 fun l hl => ?_) ?_
    · obtain ⟨x, hx, rfl⟩ := List.mem_map.1 hl
      have h1 := hy x hx
      have h2 := tenL_len x.toNat
      unfold Byte at h1
      omega
    · rw [List.length_map, hb.len]
      simp only [List.length_cons, List.length_nil]
      have : n * (65540 + 1) ≤ 16 * (65540 + 1) := Nat.mul_le_mul_right _ hn
      omega)
  clear hi0 hz0 hz1 hz2 hg hb hy
  go_enter Tryd.func16, Tryd.ntmps16
  go_wp2_with (at_make; (refine wpList_make_own _ rfl (.const (.int .i64 0)) (.tmp 11) _ rfl w.heap.size 9 i0 _ 1 Tryd.underlying47 T1.out T2.out T3.out .i64 .i64 _ n rfl rfl (by omega) b2 (by simp only [maxLen]; omega) (Nat.le_refl _) ?_)
               intro w1 hown1 hg1
               have HO1 : Hid (OwnT w1 w.heap.size (.slice (some ⟨w.heap.size, 0, none⟩) 0 n) []) := Lib.hid hown1
               have HB1 : Hid (Below w.heap.size w w1) := Lib.hid (grown_below hg1 (Nat.le_refl _) (by nofun))
               clear hown1 hg1)
  go_loopw [7, 15] (fun v iv wr => ∃ (i : Nat) (B : Option Addr) (c' : Nat), i ≤ n ∧ iv = .int .i64 i ∧ v = .slice B i c' ∧ i ≤ c' ∧ c' ≤ maxLen ∧ OwnT wr w.heap.size (.slice B i c') ((gs.take i).map fun x => tenL x.toNat) ∧ Below w.heap.size w wr) (fun _ iv _ => n - (intOf iv).toNat)
  case atStart => exact ⟨0, _, n, by omega, rfl, rfl, by omega, by simp only [maxLen]; omega, HO1.out, HB1.out⟩
  case round =>
    obtain ⟨i, B, c', hi, rfl, rfl, hic, hcm, O, Bw⟩ := hrel
    have HO := Lib.hid O
    have HB := Lib.hid Bw
    have HCM := Lib.hid (And.intro hic hcm)
    have HLT := Lib.hid (show ((gs.take i).map fun x => tenL x.toNat).length = i by rw [List.length_map, List.length_take, HL.out]; omega)
    clear O hic hcm
    by_cases hlt : i < n
    · obtain ⟨b, o, rfl, hbb, hcell⟩ := HN.out.cell hlt
      have hz : (i : Int) < (n : Int) := by omega
      have cx : wr.cell? ⟨b, o + i, none⟩ = some (.int .u8 (gs.getD i 0)) := (Bw.cell (p := ⟨b, o + i, none⟩) hbb).trans hcell
      have hx : Byte (gs.getD i 0) := by
        rw [List.getD_eq_getElem?_getD, List.getElem?_eq_getElem (by rw [HL.out]; exact hlt)]
        exact HY.out _ (List.getElem_mem _)
      have HT := Lib.hid (show (gs.take (i + 1)).map (fun x => tenL x.toNat) = (gs.take i).map (fun x => tenL x.toNat) ++ [tenL (gs.getD i 0).toNat] by
        rw [List.take_succ_eq_append_getElem (by rw [HL.out]; exact hlt), List.map_append, List.getD_eq_getElem?_getD, List.getElem?_eq_getElem (by rw [HL.out]; exact hlt)]; rfl)
      clear hcell Bw
      generalize gs.getD i 0 = x at *
      obtain ⟨x0, x1⟩ := hx
      obtain ⟨u, rfl⟩ : ∃ u : Nat, x = (u : Int) := ⟨x.toNat, by omega⟩
      have HTT := Lib.hid (show (gs.take (i + 1)).map (fun x => tenL x.toNat) = (gs.take i).map (fun x => tenL x.toNat) ++ [tenL u] from HT.out)
      have FM := Lib.hid (fmt10_any u (by omega) wr (HG.out.below HB.out))
      clear HT
      generalize hls : (gs.take i).map (fun x => tenL x.toNat) = ls at *
      have HFS := Lib.hid (rfl : strOfNums (tenL u) = strOfNums (tenL u))
      generalize hl : tenL u = l at *
      clear hls hl HFS
      go_wp2_with (first
        | (go_at_call 26; (with_reducible refine FM.out.mono ?_); rintro e w3 ⟨rfl, B3⟩
           have BB3 := Lib.hid (HB.out.trans (B3.mono HB.out.size))
           have O3 := Lib.hid (HO.out.below B3)
           clear B3)
        | (at_builtin; (refine wpList_txt w3 rfl (.tmp 19) (.tmp 24) _ rfl i0 _ 16 Tryd.underlying47 T1.out T2.out T3.out T4.out rfl w.heap.size (.slice B i c') ls (by rfl) O3.out _ l (by rfl) (by rfl) (by rw [HLT.out]; simp only [maxLen]; omega) (by rw [HLT.out]; omega) BB3.out.size (i + 1) (by rw [HLT.out]) ?_)
           intro A4 c4 w4 g4 g5 O4 B4
           have HO4 := Lib.hid O4
           have HB4 := Lib.hid (BB3.out.trans B4)
           have HG4 := Lib.hid (And.intro g4 g5)
           clear O4 B4 g4 g5))
      go_roundw
      case rel => exact ⟨i + 1, A4, c4, by omega, by go_num, rfl, HG4.out.1, HG4.out.2, by rw [HTT.out]; exact HO4.out, HB4.out⟩
      case measure => simp [intOf]; omega
    · have e : i = n := by omega
      subst e
      have HTK := Lib.hid (show (gs.take i).map (fun x => tenL x.toNat) = gs.map fun x => tenL x.toNat by rw [List.take_of_length_le (by rw [HL.out]; exact Nat.le_refl _)])
      rw [HTK.out] at HO HLT
      have JN := Lib.hid (join_any (gs.map fun x => tenL x.toNat) [46] w.heap.size B i c' wr HO.out HLT.out HCM.out.1 (by omega) HLB.out ⟨#[46]⟩ rfl)
      clear Bw
      go_wp2_with (first
        | (go_at_call 27; (with_reducible refine JN.out.mono ?_); rintro e w5 ⟨rfl, B5⟩
           have B5 := Lib.hid B5))
      go_ret
      exact ⟨rfl, HB.out.trans (B5.out.mono HB.out.size)⟩
set_option maxRecDepth 100000 in
set_option maxHeartbeats 2000000 in
theorem join16 (A : Option Addr) (n c : Nat) (gs : List Int) (w : World) (hg : Gb w) (hb : Nums .u16 w w.heap.size A n gs) (hy : ∀ x ∈ gs, W16 x) (hn : n ≤ 16) :
    Calls Tryd.prog 19 #[.slice A n c, .int .i64 16, .string ⟨#[58]⟩] w (Ret w (.string (strOfNums (joinL [58] (gs.map fun x => hexL x.toNat))))) := by
  obtain ⟨i0, hi0, hz0, hz1, hz2⟩ := info_parts string_inf
  have T1 := Lib.hid hi0; have T2 := Lib.hid hz0; have T3 := Lib.hid hz1; have T4 := Lib.hid hz2
  have b2 : i0.bytes * n ≤ 281474976710656 := by rw [hz2]; omega
  have HG := Lib.hid hg
  have HN := Lib.hid hb
  have HY := Lib.hid hy
  have HL := Lib.hid hb.len
  have HLB := Lib.hid (show (joinL [58] (gs.map fun x => hexL x.toNat)).length ≤ 2000000 by
    refine Nat.le_trans (joinL_len [58] _ 65540 fun l hl => ?_) ?_
    · obtain ⟨x, hx, rfl⟩ := List.mem_map.1 hl
      have h1 := hy x hx
      have h2 := hexL_len x.toNat
      unfold W16 at h1
      omega
    · rw [List.length_map, hb.len]
      simp only [List.length_cons, List.length_nil]
      have : n * (65540 + 1) ≤ 16 * (65540 + 1) := Nat.mul_le_mul_right _ hn
      omega)
  clear hi0 hz0 hz1 hz2 hg hb hy
  go_enter Tryd.func19, Tryd.ntmps19
  go_wp2_with (at_make; (refine wpList_make_own _ rfl (.const (.int .i64 0)) (.tmp 11) _ rfl w.heap.size 9 i0 _ 1 Tryd.underlying47 T1.out T2.out T3.out .i64 .i64 _ n rfl rfl (by omega) b2 (by simp only [maxLen]; omega) (Nat.le_refl _) ?_)
               intro w1 hown1 hg1
               have HO1 : Hid (OwnT w1 w.heap.size (.slice (some ⟨w.heap.size, 0, none⟩) 0 n) []) := Lib.hid hown1
               have HB1 : Hid (Below w.heap.size w w1) := Lib.hid (grown_below hg1 (Nat.le_refl _) (by nofun))
               clear hown1 hg1)
  go_loopw [7, 15] (fun v iv wr => ∃ (i : Nat) (B : Option Addr) (c' : Nat), i ≤ n ∧ iv = .int .i64 i ∧ v = .slice B i c' ∧ i ≤ c' ∧ c' ≤ maxLen ∧ OwnT wr w.heap.size (.slice B i c') ((gs.take i).map fun x => hexL x.toNat) ∧ Below w.heap.size w wr) (fun _ iv _ => n - (intOf iv).toNat)
  case atStart => exact ⟨0, _, n, by omega, rfl, rfl, by omega, by simp only [maxLen]; omega, HO1.out, HB1.out⟩
  case round =>
    obtain ⟨i, B, c', hi, rfl, rfl, hic, hcm, O, Bw⟩ := hrel
    have HO := Lib.hid O
    have HB := Lib.hid Bw
    have HCM := Lib.hid (And.intro hic hcm)
    have HLT := Lib.hid (show ((gs.take i).map fun x => hexL x.toNat).length = i by rw [List.length_map, List.length_take, HL.out]; omega)
    clear O hic hcm
    by_cases hlt : i < n
    · obtain ⟨b, o, rfl, hbb, hcell⟩ := HN.out.cell hlt
      have hz : (i : Int) < (n : Int) := by omega
      have cx : wr.cell? ⟨b, o + i, none⟩ = some (.int .u16 (gs.getD i 0)) := (Bw.cell (p := ⟨b, o + i, none⟩) hbb).trans hcell
      have hx : W16 (gs.getD i 0) := by
        rw [List.getD_eq_getElem?_getD, List.getElem?_eq_getElem (by rw [HL.out]; exact hlt)]
        exact HY.out _ (List.getElem_mem _)
      have HT := Lib.hid (show (gs.take (i + 1)).map (fun x => hexL x.toNat) = (gs.take i).map (fun x => hexL x.toNat) ++ [hexL (gs.getD i 0).toNat] by
        rw [List.take_succ_eq_append_getElem (by rw [HL.out]; exact hlt), List.map_append, List.getD_eq_getElem?_getD, List.getElem?_eq_getElem (by rw [HL.out]; exact hlt)]; rfl)
      clear hcell Bw
      generalize gs.getD i 0 = x at *
      obtain ⟨x0, x1⟩ := hx
      obtain ⟨u, rfl⟩ : ∃ u : Nat, x = (u : Int) := ⟨x.toNat, by omega⟩
      have HTT := Lib.hid (show (gs.take (i + 1)).map (fun x => hexL x.toNat) = (gs.take i).map (fun x => hexL x.toNat) ++ [hexL u] from HT.out)
      have FM := Lib.hid (fmt16_any u (by omega) wr (HG.out.below HB.out))
      clear HT
      generalize hls : (gs.take i).map (fun x => hexL x.toNat) = ls at *
      have HFS := Lib.hid (rfl : strOfNums (hexL u) = strOfNums (hexL u))
      generalize hl : hexL u = l at *
      clear hls hl HFS
      go_wp2_with (first
        | (go_at_call 26; (with_reducible refine FM.out.mono ?_); rintro e w3 ⟨rfl, B3⟩
           have BB3 := Lib.hid (HB.out.trans (B3.mono HB.out.size))
           have O3 := Lib.hid (HO.out.below B3)
           clear B3)
        | (at_builtin; (refine wpList_txt w3 rfl (.tmp 19) (.tmp 24) _ rfl i0 _ 16 Tryd.underlying47 T1.out T2.out T3.out T4.out rfl w.heap.size (.slice B i c') ls (by rfl) O3.out _ l (by rfl) (by rfl) (by rw [HLT.out]; simp only [maxLen]; omega) (by rw [HLT.out]; omega) BB3.out.size (i + 1) (by rw [HLT.out]) ?_)
           intro A4 c4 w4 g4 g5 O4 B4
           have HO4 := Lib.hid O4
           have HB4 := Lib.hid (BB3.out.trans B4)
           have HG4 := Lib.hid (And.intro g4 g5)
           clear O4 B4 g4 g5))
      go_roundw
      case rel => exact ⟨i + 1, A4, c4, by omega, by go_num, rfl, HG4.out.1, HG4.out.2, by rw [HTT.out]; exact HO4.out, HB4.out⟩
      case measure => simp [intOf]; omega
    · have e : i = n := by omega
      subst e
      have HTK := Lib.hid (show (gs.take i).map (fun x => hexL x.toNat) = gs.map fun x => hexL x.toNat by rw [List.take_of_length_le (by rw [HL.out]; exact Nat.le_refl _)])
      rw [HTK.out] at HO HLT
      have JN := Lib.hid (join_any (gs.map fun x => hexL x.toNat) [58] w.heap.size B i c' wr HO.out HLT.out HCM.out.1 (by omega) HLB.out ⟨#[58]⟩ rfl)
      clear Bw
      go_wp2_with (first
        | (go_at_call 27; (with_reducible refine JN.out.mono ?_); rintro e w5 ⟨rfl, B5⟩
           have B5 := Lib.hid B5))
      go_ret
      exact ⟨rfl, HB.out.trans (B5.out.mono HB.out.size)⟩
end Go.Proofs.YtdoahlhkbhpgpaaDoor.adC

namespace Go.Proofs.YtdoahlhkbhpgpaaDoor.adC
open Go.ChangeShapes Go.WideShapes Go.ChangeAt Go.RowKit
open Go.Proofs.YtdoahlhkbhpgpaaDoor.memC Go.Proofs.YtdoahlhkbhpgpaaDoor.genC Go.Proofs.YtdoahlhkbhpgpaaDoor.butC Go.Proofs.YtdoahlhkbhpgpaaDoor.freeC Go.Proofs.YtdoahlhkbhpgpaaDoor.txC
set_option linter.unusedVariables false
/-- an address's groups -/
def grB (b : List Int) : List Int := (List.range 8).map fun i => (gr b i : Int)
theorem grB_len (b : List Int) : (grB b).length = 8 := by simp [grB]
/-- the first k of them -/
def grT (b : List Int) : Nat → List Int
  | 0 => zs 8
  | k + 1 => (grT b k).set k (gr b k)
theorem grT_len (b : List Int) : ∀ k, (grT b k).length = 8
  | 0 => zs_len 8
  | k + 1 => by unfold grT; rw [List.length_set]; exact grT_len b k
theorem grT_all (b : List Int) : grT b 8 = grB b := by kernel_rfl
theorem grB_w16 {b : List Int} (hl : b.length = 16) (hy : ∀ x ∈ b, Byte x) : ∀ x ∈ grB b, W16 x := by
  intro x hx
  unfold grB at hx
  obtain ⟨i, hi, rfl⟩ := List.mem_map.1 hx
  have := gr_lt hy hl (List.mem_range.1 hi)
  exact ⟨by omega, by omega⟩
/-- groups that are the call's own -/
def WrdRet (w : World) (gs : List Int) (e : Ending) (w' : World) : Prop :=
  ∃ g, e = .returned (.slice (some ⟨g, 0, none⟩) 8 8) ∧ Nums .u16 w' w'.heap.size (some ⟨g, 0, none⟩) 8 gs ∧ Below w.heap.size w w'
structure GS (w : World) (C : Array Value) (xs : List Int) (wr : World) : Prop where
  bel : Below w.heap.size w wr
  box : wr.heap[w.heap.size]? = some (.cells C 24 (0, 0))
  arr : Arr .u16 46 wr (w.heap.size + 1) xs
theorem GS.set {w wr : World} {C : Array Value} {xs : List Int} (h : GS w C xs wr) (j : Nat) (x : Int) : GS w C (xs.set j x) (wr.setCell ⟨w.heap.size + 1, j, none⟩ (.int .u16 x)) :=
  ⟨h.bel.setCell (p := ⟨w.heap.size + 1, j, none⟩) (by show w.heap.size ≤ w.heap.size + 1; omega) _, by rw [heap_setCell_other wr ⟨w.heap.size + 1, j, none⟩ w.heap.size _ (by show w.heap.size ≠ w.heap.size + 1; omega)]; exact h.box, h.arr.stored j x⟩
theorem GS.heap {w wr w' : World} {C : Array Value} {xs : List Int} (h : GS w C xs wr) (h1 : w'.heap = wr.heap) (h2 : w'.os = wr.os) (h3 : w'.output = wr.output) (h4 : w'.tape = wr.tape) : GS w C xs w' := by
  refine ⟨⟨h2.trans h.bel.os, h4.trans h.bel.tape, h3.trans h.bel.output, by rw [h1]; exact h.bel.size, fun j hj => by rw [h1]; exact h.bel.block j hj⟩, by rw [h1]; exact h.box, h.arr.heap h1⟩
theorem made8 : madeCells #[.int .u16 0] 8 = ((zs 8).map (Value.int .u16)).toArray := by kernel_rfl
theorem or_hi {x y : Int} (hx : Byte x) (hy : Byte y) : bits .or .u16 (x * 256) y = x * 256 + y := by
  unfold Byte at hx hy
  have h1 := Go.u16_or (x * 256) y (by omega) (by omega) (by omega) (by omega)
  rw [h1]
  have h3 : y.toNat < 2 ^ 8 := by omega
  have h2 := Nat.shiftLeft_add_eq_or_of_lt h3 x.toNat
  rw [Nat.shiftLeft_eq] at h2
  rw [show (x * 256).toNat = x.toNat * 2 ^ 8 by omega, ← h2]
  omega
set_option maxRecDepth 100000 in
set_option maxHeartbeats 2000000 in
theorem groups_of (s : Bool) (b : List Int) (w : World) (hl : b.length = 16) (hy : ∀ x ∈ b, Byte x) :
    Calls Tryd.prog 17 #[.agg (adrV s b)] w (WrdRet w (grB b)) := by
  have hmk : ∀ w', (Instr.makeSlice 41 (.int .i64 8) (.int .i64 8)).run Tryd.prog w' = .ok (.slice (some ⟨w'.heap.size, 0, none⟩) 8 8) (w'.alloc (.cells (madeCells #[.int .u16 0] 8) 46)) :=
    fun w' => run_make_row' (P := Tryd.prog) 41 46 (.int .u16 0) 2 Tryd.underlying41 word_inf rfl .i64 .i64 8 (by omega) (by omega) w'
  have e1 : (w.alloc (.cells (adrV s b) 24)).heap.size = w.heap.size + 1 := alloc_size _ _
  obtain ⟨W, hW⟩ : ∃ W, W = (w.alloc (.cells (adrV s b) 24)).alloc (.cells (madeCells #[.int .u16 0] 8) 46) := ⟨_, rfl⟩
  have T0 : Hid (GS w (adrV s b) (grT b 0) W) := Lib.hid (by
    rw [hW]
    refine ⟨((Below.refl _ _).alloc (Nat.le_refl _) _).alloc (by simp) _, by rw [Below.block (alloc_below _ _) _ (by rw [e1]; omega)]; exact heap_alloc_new w _, ?_⟩
    rw [made8, ← e1]
    exact Arr.new _ .u16 _ _)
  have HC := Lib.hid (fun (i : Nat) (hi : i < 16) => adrV_at (s := s) (bs := b) (i := i) (by omega))
  have HL := Lib.hid hl
  have HY := Lib.hid (fun (i : Nat) (hi : i < 16) => getD_byte hy (k := i) (by omega))
  have HG := Lib.hid (fun (i : Nat) (hi : i < 8) => gr_is hy hl hi)
  have HS : Hid (∀ k : Nat, grT b (k + 1) = (grT b k).set k (gr b k)) := Lib.hid (fun k => rfl)
  have HA := Lib.hid (grT_all b)
  have HN := Lib.hid (grT_len b)
  generalize adrV s b = C at *
  generalize madeCells #[.int .u16 0] 8 = M at *
  clear hl hy
  go_enter Tryd.func17, Tryd.ntmps17
  go_upto_region 2 with fail
  rw [← hW]

  clear hW hmk e1
  go_wp2_with fail
  go_loopw [8] (fun i wr => ∃ k : Nat, k ≤ 8 ∧ i = .int .i64 k ∧ GS w C (grT b k) wr) (fun i _ => 8 - (intOf i).toNat)
  case atStart => exact ⟨0, by omega, rfl, T0.out⟩
  case round =>
    obtain ⟨k, hk, rfl, BB⟩ := hrel
    have HB := Lib.hid BB
    by_cases hlt : k < 8
    · have hkz : (k : Int) < 8 := by omega
      obtain ⟨p, hp⟩ : ∃ p, p = 2 * k := ⟨_, rfl⟩
      obtain ⟨q, hq⟩ : ∃ q, q = 2 * k + 1 := ⟨_, rfl⟩
      have p16 : p < 16 := by omega
      have q16 : q < 16 := by omega
      have c0 : wr.cell? ⟨w.heap.size, 1 + p, none⟩ = some (.int .u8 (b.getD p 0)) := by rw [cell_of_row wr w.heap.size (1 + p) _ _ (0, 0) BB.box]; exact HC.out p p16
      have c1 : wr.cell? ⟨w.heap.size, 1 + q, none⟩ = some (.int .u8 (b.getD q 0)) := by rw [cell_of_row wr w.heap.size (1 + q) _ _ (0, 0) BB.box]; exact HC.out q q16
      have ca := BB.arr.cell (j := k) (by rw [HN.out]; exact hlt)
      have fa := BB.arr.frozen k
      have yx := HY.out p p16
      have yy := HY.out q q16
      have hgr := HG.out k hlt
      rw [← hq, ← hp] at hgr
      have HO := Lib.hid (or_hi yx yy)
      have HT := Lib.hid (HB.out.set k (gr b k))
      rw [← HS.out k] at HT
      have HT2 := Lib.hid (HT.out.heap (w' := (wr.setCell ⟨w.heap.size + 1, k, none⟩ (.int .u16 (gr b k))).drew) rfl rfl rfl rfl)
      generalize b.getD p 0 = x at *
      generalize b.getD q 0 = y at *
      generalize gr b k = z at *
      obtain ⟨x0, x1⟩ := yx
      obtain ⟨y0, y1⟩ := yy
      have ep : (2 : Int) * (k : Int) = (p : Int) := by omega
      have eq : (p : Int) + 1 = (q : Int) := by omega
      have pz : (p : Int) < 16 := by omega
      have qz : (q : Int) < 16 := by omega
      have wp : IntKind.i64.wrap (p : Int) = (p : Int) := IntWalk.i64_in _ (by omega)
      have wq : IntKind.i64.wrap (q : Int) = (q : Int) := IntWalk.i64_in _ (by omega)
      have wx : IntKind.u16.wrap x = x := IntWalk.u16_in _ (by omega)
      have wy : IntKind.u16.wrap y = y := IntWalk.u16_in _ (by omega)
      have wxx : IntKind.u16.wrap (x * 256) = x * 256 := IntWalk.u16_in _ (by omega)
      have ho : bits .or .u16 (x * 256) y = (z : Int) := by rw [HO.out]; omega
      clear hp hq BB hgr HT
      go_upto_region 5 with fail
      go_still_tail 18, (by kernel_rfl)
      change wpList _ _ _ _ _ wr.drew
      go_wp2_with fail
      go_roundw
      case rel => exact ⟨k + 1, by omega, by go_num, HT2.out.heap rfl rfl rfl rfl⟩
      case measure => simp [intOf]; omega
    · have e : k = 8 := by omega
      subst e
      have HR := Lib.hid (BB.arr.part (grT_len b 8))
      rw [HA.out] at HR
      have HQ := Lib.hid BB.bel
      clear BB HB
      go_wp2_with fail
      go_ret
      exact ⟨_, rfl, HR.out, HQ.out⟩
end Go.Proofs.YtdoahlhkbhpgpaaDoor.adC

namespace Go.Proofs.YtdoahlhkbhpgpaaDoor.adC
open Go.ChangeShapes Go.WideShapes Go.ChangeAt Go.RowKit
open Go.Proofs.YtdoahlhkbhpgpaaDoor.memC Go.Proofs.YtdoahlhkbhpgpaaDoor.genC Go.Proofs.YtdoahlhkbhpgpaaDoor.butC Go.Proofs.YtdoahlhkbhpgpaaDoor.freeC Go.Proofs.YtdoahlhkbhpgpaaDoor.txC
set_option linter.unusedVariables false
/-- behind i groups: where the longest run begins, how long it is, how long the last one is -/
def zS (gs : List Int) : Nat → Nat × Nat × Nat
  | 0 => (0, 0, 0)
  | i + 1 => if gs.getD i 0 ≠ 0 then ((zS gs i).1, (zS gs i).2.1, 0) else if (zS gs i).2.1 < (zS gs i).2.2 + 1 then (i - (zS gs i).2.2, (zS gs i).2.2 + 1, (zS gs i).2.2 + 1) else ((zS gs i).1, (zS gs i).2.1, (zS gs i).2.2 + 1)
theorem zS_le (gs : List Int) : ∀ i, (zS gs i).1 ≤ i ∧ (zS gs i).2.1 ≤ i ∧ (zS gs i).2.2 ≤ i
  | 0 => ⟨Nat.le_refl _, Nat.le_refl _, Nat.le_refl _⟩
  | i + 1 => by
    obtain ⟨h1, h2, h3⟩ := zS_le gs i
    unfold zS
    split
    · exact ⟨by show (zS gs i).1 ≤ _; omega, by show (zS gs i).2.1 ≤ _; omega, Nat.zero_le _⟩
    · split
      · exact ⟨by show i - _ ≤ _; omega, by show _ + 1 ≤ _; omega, by show _ + 1 ≤ _; omega⟩
      · exact ⟨by show (zS gs i).1 ≤ _; omega, by show (zS gs i).2.1 ≤ _; omega, by show _ + 1 ≤ _; omega⟩
def zA (gs : List Int) (i : Nat) : Nat := (zS gs i).1
def zM (gs : List Int) (i : Nat) : Nat := (zS gs i).2.1
def zR (gs : List Int) (i : Nat) : Nat := (zS gs i).2.2
theorem z_le (gs : List Int) (i : Nat) : zA gs i ≤ i ∧ zM gs i ≤ i ∧ zR gs i ≤ i := zS_le gs i
theorem z_not {gs : List Int} {i : Nat} (h : gs.getD i 0 ≠ 0) : zA gs (i + 1) = zA gs i ∧ zM gs (i + 1) = zM gs i ∧ zR gs (i + 1) = 0 := by
  unfold zA zM zR; rw [zS, if_pos h]; exact ⟨rfl, rfl, rfl⟩
theorem z_more {gs : List Int} {i : Nat} (h : gs.getD i 0 = 0) (h2 : zM gs i < zR gs i + 1) : zA gs (i + 1) = i - zR gs i ∧ zM gs (i + 1) = zR gs i + 1 ∧ zR gs (i + 1) = zR gs i + 1 := by
  unfold zA zM zR at *; rw [zS, if_neg (by rw [h]; simp), if_pos h2]; exact ⟨rfl, rfl, rfl⟩
theorem z_less {gs : List Int} {i : Nat} (h : gs.getD i 0 = 0) (h2 : ¬ zM gs i < zR gs i + 1) : zA gs (i + 1) = zA gs i ∧ zM gs (i + 1) = zM gs i ∧ zR gs (i + 1) = zR gs i + 1 := by
  unfold zA zM zR at *; rw [zS, if_neg (by rw [h]; simp), if_neg h2]; exact ⟨rfl, rfl, rfl⟩
set_option maxRecDepth 100000 in
set_option maxHeartbeats 1000000 in
theorem zeros_any (A : Option Addr) (n c : Nat) (gs : List Int) (w : World) (hb : Nums .u16 w w.heap.size A n gs) (hn : n ≤ 1000) :
    Calls Tryd.prog 18 #[.slice A n c] w fun e w' => e = .returned (.tuple #[.int .i64 (zA gs n), .int .i64 (zM gs n)]) ∧ w = w' := by
  have NB := Lib.hid hb
  have ZL := Lib.hid (z_le gs)
  have ZE := Lib.hid (fun i (h : gs.getD i 0 ≠ 0) => z_not h)
  have ZM' := Lib.hid (fun i (h : gs.getD i 0 = 0) => z_more (i := i) h)
  have ZF := Lib.hid (fun i (h : gs.getD i 0 = 0) => z_less (i := i) h)
  clear hb
  go_enter Tryd.func18, Tryd.ntmps18
  go_wp2_with fail
  go_loop [2, 3, 4, 9] (fun va vm vr vi => ∃ i : Nat, i ≤ n ∧ va = .int .i64 (zA gs i) ∧ vm = .int .i64 (zM gs i) ∧ vr = .int .i64 (zR gs i) ∧ vi = .int .i64 i) (fun _ _ _ vi => n - (intOf vi).toNat)
  case atStart => exact ⟨0, by omega, rfl, rfl, rfl, rfl⟩
  case round =>
    obtain ⟨i, hi, rfl, rfl, rfl, rfl⟩ := hrel
    by_cases hlt : i < n
    · obtain ⟨b, o, rfl, hbb, hcell⟩ := NB.out.cell hlt
      have hz : (i : Int) < (n : Int) := by omega
      obtain ⟨l1, l2, l3⟩ := ZL.out i
      have E := Lib.hid (ZE.out i)
      have M := Lib.hid (ZM'.out i)
      have F := Lib.hid (ZF.out i)
      generalize zA gs i = a at *
      generalize zM gs i = m at *
      generalize zR gs i = r at *
      generalize gs.getD i 0 = x at *
      obtain ⟨q, hq⟩ : ∃ q, q = r + 1 := ⟨_, rfl⟩
      have eq : (r : Int) + 1 = (q : Int) := by omega
      obtain ⟨p, hp⟩ : ∃ p, p = i - r := ⟨_, rfl⟩
      obtain ⟨j, hj⟩ : ∃ j, j = i + 1 := ⟨_, rfl⟩
      have ej : (i : Int) + 1 = (j : Int) := by omega
      have ep : (j : Int) - (q : Int) = (p : Int) := by omega
      have b1 : (i : Int) ≤ 1000 := by omega
      have b2 : (r : Int) ≤ 1000 := by omega
      have b3 : (q : Int) ≤ 1001 := by omega
      have b4 : (j : Int) ≤ 1001 := by omega
      have b5 : (p : Int) ≤ 1000 := by omega
      by_cases hx : x = 0
      · subst hx
        by_cases hm : m < q
        · have hmz : (m : Int) < (q : Int) := by omega
          have HN := Lib.hid (M.out rfl (by omega))
          rw [← hq, ← hp] at HN
          clear hm hq hp hbb l1 l2 l3 hlt hi hn E M F
          have HJ := Lib.hid hj
          clear hj
          go_wp2_with fail
          go_round
          case rel => exact ⟨i + 1, by have := HJ.out; omega, by rw [HN.out.1], by rw [HN.out.2.1], by rw [HN.out.2.2], by rw [HJ.out]⟩
          case measure => have := HJ.out; simp [intOf]; omega
        · have hmz : ¬ (m : Int) < (q : Int) := by omega
          have HN := Lib.hid (F.out rfl (by omega))
          rw [← hq] at HN
          clear hm hq hp hbb l1 l2 l3 hlt hi hn E M F ep b5
          have HJ := Lib.hid hj
          clear hj
          go_wp2_with fail
          go_round
          case rel => exact ⟨i + 1, by have := HJ.out; omega, by rw [HN.out.1], by rw [HN.out.2.1], by rw [HN.out.2.2], by rw [HJ.out]⟩
          case measure => have := HJ.out; simp [intOf]; omega
      · have hxz : (x != 0) = true := by simpa using hx
        have HN := Lib.hid (E.out hx)
        clear hq hp hbb l1 l2 l3 hlt hi hn E M F ep b5 eq b3 hx
        have HJ := Lib.hid hj
        clear hj
        go_wp2_with fail
        go_round
        case rel => exact ⟨i + 1, by have := HJ.out; omega, by rw [HN.out.1], by rw [HN.out.2.1], by rw [HN.out.2.2]; rfl, by rw [HJ.out]⟩
        case measure => have := HJ.out; simp [intOf]; omega
    · have e : i = n := by omega
      subst e
      go_wp2_with fail
      go_ret2
      exact ⟨rfl, rfl⟩
end Go.Proofs.YtdoahlhkbhpgpaaDoor.adC
