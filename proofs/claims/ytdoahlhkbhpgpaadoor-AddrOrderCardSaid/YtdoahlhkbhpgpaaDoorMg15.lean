/-
  2 texts of a proof, joined.
-/
import Derived.Test.YtdoahlhkbhpgpaaDoorMg8
import Derived.Shelf.Strconv.Itoa3
import Derived.Lib.AppendIntMem
import Derived.Laws.BitsAllLaws

namespace Go.Proofs.YtdoahlhkbhpgpaaDoor.adC
open Go.ChangeShapes Go.WideShapes Go.ChangeAt Go.RowKit
open Go.Proofs.YtdoahlhkbhpgpaaDoor.memC Go.Proofs.YtdoahlhkbhpgpaaDoor.genC Go.Proofs.YtdoahlhkbhpgpaaDoor.butC Go.Proofs.YtdoahlhkbhpgpaaDoor.freeC Go.Proofs.YtdoahlhkbhpgpaaDoor.txC
set_option linter.unusedVariables false
theorem z24_info : (Tryd.prog.info? 81).map (·.zero) = some (some (.agg Lib.zeros24)) := by kernel_rfl
theorem zero24 (w : World) : (zeroValue 81).run Tryd.prog w = .ok (.agg Lib.zeros24) w := by
  obtain ⟨i, hi, hz⟩ := Option.map_eq_some_iff.1 z24_info
  simp [zeroValue, typeInfo, hi, hz]
theorem nd3 {u : Nat} (h1 : 100 ≤ u) (h2 : u < 1000) : Lib.nDigits u = 3 := by
  rw [Lib.nDigits, dif_neg (by omega), Lib.nDigits, dif_neg (by omega), Lib.nDigits, dif_pos (by omega)]
theorem mapBlock_below (w : World) {g : Nat} (f : Array Value → Array Value) {B : Nat} (hB : B ≤ g) (hw : B ≤ w.heap.size) : Below B w (Sort.mapBlock w g f) := by
  refine ⟨rfl, rfl, rfl, by show w.heap.size ≤ (w.heap.modify g _).size; simp, fun j hj => ?_⟩
  show (w.heap.modify g _)[j]? = w.heap[j]?
  rw [Array.getElem?_modify, if_neg (by omega)]
theorem small_any (u : Nat) (h : u < 100) (w : World) : Calls Tryd.prog 43 #[.int .i64 u] w fun e w' => e = .returned (.string (strOfNums (tenL u))) ∧ w = w' :=
  (Tryd.internal_strconv_small u h w).mono fun e w' ⟨he, hw⟩ => ⟨by rw [he, dec_ten], hw.symm⟩
theorem digits_any (u : Nat) (h1 : 100 ≤ u) (h2 : u < 1000) (w : World) (hg : Gb w) : Calls Tryd.prog 44 #[.int .u64 u] w fun e w' => e = .returned (.int .i64 3) ∧ w = w' :=
  (Tryd.internal_strconv_numDigits u (by omega) (by omega) w hg.pow).mono fun e w' ⟨he, hw⟩ => ⟨by rw [he, nd3 h1 h2]; rfl, hw.symm⟩
/-- three digits laid into the first cells of block g -/
def F10 (w : World) (g : Nat) (u : Nat) (e : Ending) (w' : World) : Prop := e = .returned (.tuple #[]) ∧ Nums .u8 w' w'.heap.size (some ⟨g, 0, none⟩) 3 (tenL u) ∧ Below g w w'
theorem f10_any (u : Nat) (h1 : 100 ≤ u) (h2 : u < 1000) (w : World) (T : TypeId) :
    Calls Tryd.prog 45 #[.slice (some ⟨w.heap.size, 0, none⟩) 3 24, .int .u64 u] (w.alloc (.cells Lib.zeros24 T)) (F10 (w.alloc (.cells Lib.zeros24 T)) w.heap.size u) := by
  have h3 := nd3 h1 h2
  have hH := Lib.holds_zero0 w T 3 (by decide)
  have hp : u < 10 ^ 3 := by omega
  refine (Tryd.internal_strconv_formatBase10 w.heap.size 0 24 u (Array.replicate 3 0) (w.alloc (.cells Lib.zeros24 T)) hH hp (by omega) (by decide)).mono fun e w' ⟨he, n, v', dk, hw, hF⟩ => ?_
  have hs : dk.size = 3 := hF.size
  subst hw
  refine ⟨he, ?_, ?_⟩
  · have hl : (tenL u).length = 3 := by rw [ten3 (by omega) h2]; rfl
    have key : Lib.decDigits u = (tenL u).map toB := by
      have := dec_ten u
      have h5 := congrArg (fun b : ByteArray => b.data.toList) this
      simp only at h5
      rw [str_data] at h5
      exact h5
    have hdl : (Lib.decDigits u).length = 3 := by rw [Lib.decDigits_length, h3]
    have hF' : Lib.FmtInv (Lib.nDigits u) u 0 v' dk := by rw [h3]; exact hF
    refine ⟨hl, fun _ => ⟨w.heap.size, 0, rfl, ?_, fun i hi => ?_⟩⟩
    · have h5 : (w.alloc (.cells Lib.zeros24 T)).heap.size = w.heap.size + 1 := alloc_size _ _
      have h6 := (mapBlock_below (w.alloc (.cells Lib.zeros24 T)) (g := w.heap.size) (Sort.putCells (fun (b : UInt8) => Value.int .u8 (b.toNat : Int)) 0 dk) (Nat.zero_le _) (Nat.zero_le _))
      show w.heap.size < (Array.size _)
      have h7 : (Sort.putRow (fun (b : UInt8) => Value.int .u8 (b.toNat : Int)) (w.alloc (.cells Lib.zeros24 T)) w.heap.size 0 dk).heap.size = (w.alloc (.cells Lib.zeros24 T)).heap.size := by
        show ((w.alloc (.cells Lib.zeros24 T)).heap.modify _ _).size = _
        simp
      show w.heap.size < (Sort.putRow (fun (b : UInt8) => Value.int .u8 (b.toNat : Int)) (w.alloc (.cells Lib.zeros24 T)) w.heap.size 0 dk).heap.size
      omega
    · have hi2 : i < (Lib.decDigits u).length := by omega
      have h8 := Lib.row_is_numeral hF' i hi2
      rw [World.cell?_drewN]
      refine (Sort.cell?_putRow (fun (b : UInt8) => Value.int .u8 (b.toNat : Int)) _ w.heap.size 0 _ dk hH (by rw [hs]; rfl) i (by omega)).trans ?_
      rw [← h8]
      congr 2
      have hb : Byte ((tenL u).getD i 0) := getD_byte (tenL_byte u) (by omega)
      have e1 : (Lib.decDigits u)[i]'hi2 = toB ((tenL u).getD i 0) := by
        have : (Lib.decDigits u)[i]? = some (toB ((tenL u).getD i 0)) := by
          rw [key, List.getElem?_map, List.getD_eq_getElem?_getD, List.getElem?_eq_getElem (by omega)]; rfl
        rw [List.getElem?_eq_getElem hi2] at this
        exact Option.some.inj this
      rw [e1]
      exact toB_nat hb
  · exact bel_drewN (mapBlock_below _ _ (Nat.le_refl _) (by rw [alloc_size]; omega)) n
set_option maxRecDepth 100000 in
set_option maxHeartbeats 1000000 in
theorem ifmt10 (u : Nat) (hu : u < 256) (w : World) (hg : Gb w) : Calls Tryd.prog 33 #[.int .u64 u, .int .i64 10] w (Ret w (.string (strOfNums (tenL u)))) := by
  by_cases h : u < 100
  · have SM := Lib.hid (fun w' => small_any u h w')
    have hz : (u : Int) < 100 := by omega
    clear hg
    go_enter Tryd.func33, Tryd.ntmps33
    go_wp2_with (first | (go_at_call 43; (with_reducible refine (SM.out _).mono ?_); rintro e w1 ⟨rfl, rfl⟩))
    go_ret
    exact ⟨rfl, Below.refl _ _⟩
  · have hz : ¬ (u : Int) < 100 := by omega
    have hu1 : (u : Int) < 256 := by omega
    have hal : Tryd.prog.arrayLen 81 = 24 := by simp [Program.arrayLen, Tryd.underlying81]
    have hsl : ∀ W, (Instr.sliceAt 81 (.pointer (some ⟨w.heap.size, 0, none⟩)) none (some (.int .i64 3)) none).run Tryd.prog W = .ok (.slice (some ⟨w.heap.size, 0, none⟩) 3 24) W := fun W => by
      rw [run_sliceAt_array_h W 81 ⟨w.heap.size, 0, none⟩ (by simp [Program.arrayLen, Program.elem, Tryd.underlying81]) .i64 3 (by omega) (by rw [hal]; omega)]
      go_simp
    have hzv := zero24
    have B0 := Lib.hid (alloc_below w (.cells Lib.zeros24 81))
    have ND := Lib.hid (digits_any u (by omega) (by omega) _ (hg.below B0.out))
    have FT := Lib.hid (f10_any u (by omega) (by omega) w 81)
    generalize Lib.zeros24 = Z at *
    clear hg hal
    go_enter Tryd.func33, Tryd.ntmps33
    go_upto_region 7 with (first
      | (go_at_call 44; (with_reducible refine ND.out.mono ?_); rintro e w1 ⟨rfl, rfl⟩)
      | (go_at_call 45; (with_reducible refine FT.out.mono ?_); rintro e w2 ⟨rfl, N2, B2⟩
         have HB2 := Lib.hid (B0.out.trans B2)
         have hcv := run_string N2 24 26 5 9 Tryd.underlying26 Tryd.underlying5 Tryd.underlying9
         clear N2 B2))
    go_wp2_with fail
    go_ret
    exact ⟨rfl, HB2.out⟩
set_option maxRecDepth 100000 in
theorem fmt10_any (u : Nat) (hu : u < 256) (w : World) (hg : Gb w) : Calls Tryd.prog 26 #[.int .u64 u, .int .i64 10] w (Ret w (.string (strOfNums (tenL u)))) := by
  have IF := Lib.hid (ifmt10 u hu w hg)
  have h2 : (u : Int) < 256 := by omega
  clear hg
  generalize strOfNums (tenL u) = S at *
  go_enter Tryd.func26, Tryd.ntmps26
  go_wp2_with (first | (go_at_call 33; (with_reducible refine IF.out.mono ?_); rintro e w1 ⟨rfl, B1⟩
                        have B1 := Lib.hid B1))
  go_ret
  exact ⟨rfl, B1.out⟩
end Go.Proofs.YtdoahlhkbhpgpaaDoor.adC

namespace Go.Proofs.YtdoahlhkbhpgpaaDoor.adC
open Go.ChangeShapes Go.WideShapes Go.ChangeAt Go.RowKit
open Go.Proofs.YtdoahlhkbhpgpaaDoor.memC Go.Proofs.YtdoahlhkbhpgpaaDoor.genC Go.Proofs.YtdoahlhkbhpgpaaDoor.butC Go.Proofs.YtdoahlhkbhpgpaaDoor.freeC Go.Proofs.YtdoahlhkbhpgpaaDoor.txC
set_option linter.unusedVariables false
theorem z65_info : (Tryd.prog.info? 101).map (·.zero) = some (some (.agg ((zs 65).map (Value.int .u8)).toArray)) := by kernel_rfl
theorem zero65 (w : World) : (zeroValue 101).run Tryd.prog w = .ok (.agg ((zs 65).map (Value.int .u8)).toArray) w := by
  obtain ⟨i, hi, hz⟩ := Option.map_eq_some_iff.1 z65_info
  simp [zeroValue, typeInfo, hi, hz]
def sgn : ByteArray := ⟨#[48, 49, 50, 51, 52, 53, 54, 55, 56, 57, 97, 98, 99, 100, 101, 102, 103, 104, 105, 106, 107, 108, 109, 110, 111, 112, 113, 114, 115, 116, 117, 118, 119, 120, 121, 122]⟩
theorem sgn_at {h : Int} (h0 : 0 ≤ h) (h1 : h ≤ 15) (w : World) : (Instr.index 9 (.string sgn) (.int .u64 h)).run Tryd.prog w = .ok (.int .u8 (hexD h)) w := by
  rcases list16 h0 h1 with rfl | rfl | rfl | rfl | rfl | rfl | rfl | rfl | rfl | rfl | rfl | rfl | rfl | rfl | rfl | rfl <;> kernel_rfl
theorem ix_run {P : Program} {o : Oper} {a : Act} {w : World} {T : TypeId} {s x : Operand} {S : ByteArray} {k : IntKind} {z c : Int} (ho : o.op = .index T s x) (hs : a.eval s = .string S) (hx : a.eval x = .int k z)
    (hq : (Instr.index T (.string S) (.int k z)).run P w = .ok (.int .u8 c) w) : (execOp a.eval o).run P w = .ok (.value (.int .u8 c)) w := by
  unfold execOp
  rw [ho]
  simp only [hs, hx, Sem.run_bind, hq, Result.andThen_ok, Sem.run_pure]
theorem hexL_snoc {n : Nat} (h : ¬ n < 16) : hexL n = hexL (n / 16) ++ [hexD ((n % 16 : Nat) : Int)] := by
  rw [hexL_high h, hexL_low (n := n % 16) (by omega)]
set_option maxRecDepth 100000 in
theorem tz16 (w : World) (hg : Gb w) : Calls Tryd.prog 66 #[.int .u64 16] w fun e w' => e = .returned (.int .i64 4) ∧ w = w' := by
  have hc := hg.db
  have hi : IntKind.u64.wrap (bits .and .u64 16 (IntKind.u64.wrap (-16)) * 285870213051353865) / 288230376151711744 = 15 := by decide +kernel
  clear hg
  go_enter Tryd.func66, Tryd.ntmps66
  go_wp2
  go_ret
  exact ⟨rfl, rfl⟩
set_option maxRecDepth 100000 in
theorem pow2_16 (w : World) : Calls Tryd.prog 65 #[.int .i64 16] w fun e w' => e = .returned (.bool true) ∧ w = w' := by
  go_enter Tryd.func65, Tryd.ntmps65
  go_wp2
  go_ret
  exact ⟨rfl, rfl⟩
/-- what is laid so far: u0's last digits, from place i on -/
structure HB (w : World) (u0 u i : Nat) (wr : World) : Prop where
  bel : Below w.heap.size w wr
  ex : ∃ xs, Arr .u8 101 wr w.heap.size xs ∧ xs.length = 65 ∧ hexL u0 = hexL u ++ xs.drop i
  few : (i = 65 ∧ u < 65536) ∨ (i = 64 ∧ u < 4096) ∨ (i = 63 ∧ u < 256) ∨ (i = 62 ∧ u < 16)
theorem and15u {u : Nat} (h : u < 65536) : bits .and .u64 (u : Int) 15 = ((u % 16 : Nat) : Int) := by
  rw [Go.u64_and (u : Int) 15 (by omega) (by omega) (by omega) (by omega)]
  have e : (15 : Int).toNat = 2 ^ 4 - 1 := by decide
  rw [e, Nat.and_two_pow_sub_one_eq_mod]
  omega
theorem drop_set {xs : List Int} {i : Nat} (h : i < xs.length) (x : Int) : (xs.set i x).drop i = x :: xs.drop (i + 1) := by
  rw [List.drop_set, if_neg (Nat.lt_irrefl i), Nat.sub_self, List.drop_eq_getElem_cons h]
  rfl
def BitsRet (w : World) (S : ByteArray) (e : Ending) (w' : World) : Prop := e = .returned (.tuple #[.slice none 0 0, .string S]) ∧ Below w.heap.size w w'
theorem sl65 (g j : Nat) (hj : j < 65) : ∀ W, (Instr.sliceAt 101 (.pointer (some ⟨g, 0, none⟩)) (some (.int .i64 (j : Int))) none none).run Tryd.prog W = .ok (.slice (some ⟨g, j, none⟩) (65 - j) (65 - j)) W := fun W => by
  have hal : Tryd.prog.arrayLen 101 = 65 := by simp [Program.arrayLen, Tryd.underlying101]
  rw [run_sliceAt_array_l W 101 ⟨g, 0, none⟩ (by simp [Program.arrayLen, Program.elem, Tryd.underlying101]) .i64 (j : Int) (by omega) (by rw [hal]; omega), hal]
  have h65 : ¬ 65 = j := by omega
  go_simp
set_option maxRecDepth 100000 in
set_option maxHeartbeats 2000000 in
theorem bits16 (u0 : Nat) (hu : u0 < 65536) (w : World) (hg : Gb w) : Calls Tryd.prog 46 #[.slice none 0 0, .int .u64 u0, .int .i64 16, .bool false, .bool false] w (BitsRet w (strOfNums (hexL u0))) := by
  have hzv := zero65
  have HB0 := Lib.hid (show HB w u0 u0 65 (w.alloc (.cells ((zs 65).map (Value.int .u8)).toArray 101)) from ⟨alloc_below _ _, ⟨zs 65, Arr.new w .u8 _ _, zs_len 65, by rw [List.drop_eq_nil_of_le (by rw [zs_len]; exact Nat.le_refl _), List.append_nil]⟩, .inl ⟨rfl, hu⟩⟩)
  have TZ := Lib.hid (tz16 _ (hg.below HB0.out.bel))
  have PW := Lib.hid pow2_16
  have hu1 : (u0 : Int) < 65536 := by omega
  generalize ((zs 65).map (Value.int .u8)).toArray = Z at *
  clear hg
  go_enter Tryd.func46, Tryd.ntmps46
  go_upto_region 11 with (first
    | (go_at_call 65; (with_reducible refine (PW.out _).mono ?_); rintro e w' ⟨rfl, rfl⟩)
    | (go_at_call 66; (with_reducible refine TZ.out.mono ?_); rintro e w' ⟨rfl, rfl⟩))
  generalize w.alloc (.cells Z 101) = w1 at *
  obtain ⟨g, hgd⟩ : ∃ g, g = w.heap.size := ⟨_, rfl⟩
  have HGD := Lib.hid hgd
  rw [← hgd]
  clear hzv hgd TZ PW hu1
  go_loopw [1, 13] (fun uv iv wr => ∃ u i : Nat, uv = .int .u64 u ∧ iv = .int .i64 i ∧ HB w u0 u i wr) (fun uv _ _ => (intOf uv).toNat)
  case atStart => exact ⟨u0, 65, rfl, rfl, HB0.out⟩
  case round =>
    obtain ⟨u, i, rfl, rfl, B⟩ := hrel
    have HBB := Lib.hid B
    have hfew := B.few
    clear B
    obtain ⟨xs, ha, hl, hx⟩ := HBB.out.ex
    rw [← HGD.out] at ha
    have HX := Lib.hid hx
    have HL := Lib.hid hl
    have hi0 : 62 ≤ i := by omega
    have hi1 : i ≤ 65 := by omega
    have hu6 : (u : Int) < 65536 := by omega
    obtain ⟨j, hj⟩ : ∃ j, j = i - 1 := ⟨_, rfl⟩
    have ej : (i : Int) - 1 = (j : Int) := by omega
    have hj65 : (j : Int) < 65 := by omega
    have HJ := Lib.hid (show j + 1 = i by omega)
    by_cases h16 : 16 ≤ u
    · have hz : (16 : Int) ≤ (u : Int) := by omega
      obtain ⟨v, hv⟩ : ∃ v, v = u % 16 := ⟨_, rfl⟩
      have hand : bits .and .u64 (u : Int) 15 = (v : Int) := by rw [and15u (by omega), hv]
      obtain ⟨q, hq⟩ : ∃ q, q = u / 16 := ⟨_, rfl⟩
      have hsh : (u : Int) / 16 = (q : Int) := by omega
      have SG := Lib.hid (fun w' => sgn_at (h := (v : Int)) (by omega) (by omega) w')
      have hc := ha.cell (j := j) (by rw [hl]; omega)
      have hf := ha.frozen j
      have HN := Lib.hid (show HB w u0 q j (wr.setCell ⟨g, j, none⟩ (.int .u8 (hexD (v : Int)))) from
        ⟨HBB.out.bel.setCell (p := ⟨g, j, none⟩) (by show w.heap.size ≤ g; rw [HGD.out]; exact Nat.le_refl _) _, by
          refine ⟨xs.set j (hexD (v : Int)), by rw [← HGD.out]; exact ha.stored j _, by rw [List.length_set]; exact hl, ?_⟩
          rw [drop_set (by rw [hl]; omega), HJ.out, HX.out, hexL_snoc (by omega), ← hv, ← hq]
          simp, by omega⟩)
      have HQ := Lib.hid (show q < u by omega)
      have hv16 : (v : Int) ≤ 15 := by omega
      clear hx hl ha hv hq hfew hj
      generalize hexD (v : Int) = d at *
      go_upto_region 14 with (first
        | (refine wpList_runG (by rfl) _ (ix_run rfl rfl rfl (SG.out _)) ?_))
      clear hc hf hand
      generalize wr.setCell ⟨g, j, none⟩ (.int .u8 d) = w4 at *
      go_wp2_with fail
      go_roundw
      case rel => exact ⟨q, j, rfl, rfl, HN.out⟩
      case measure => have := HQ.out; simp [intOf]; omega
    · have hz : ¬ (16 : Int) ≤ (u : Int) := by omega
      have SG := Lib.hid (fun w' => sgn_at (h := (u : Int)) (by omega) (by omega) w')
      have hc := ha.cell (j := j) (by rw [hl]; omega)
      have hf := ha.frozen j
      have ha2 : Arr .u8 101 (wr.setCell ⟨g, j, none⟩ (.int .u8 (hexD (u : Int)))) g (xs.set j (hexD (u : Int))) := ha.stored j _
      have HD := Lib.hid (show (xs.set j (hexD (u : Int))).drop j = hexL u0 by
        rw [drop_set (by rw [hl]; omega), HJ.out, HX.out, hexL_low (by omega)]; simp)
      have HBel := Lib.hid (show Below w.heap.size w (wr.setCell ⟨g, j, none⟩ (.int .u8 (hexD (u : Int)))) from HBB.out.bel.setCell (p := ⟨g, j, none⟩) (by show w.heap.size ≤ g; rw [HGD.out]; exact Nat.le_refl _) _)
      have HNums := Lib.hid (show Nums .u8 (wr.setCell ⟨g, j, none⟩ (.int .u8 (hexD (u : Int)))) (wr.setCell ⟨g, j, none⟩ (.int .u8 (hexD (u : Int)))).heap.size (some ⟨g, j, none⟩) (65 - j) (hexL u0) by
        refine ⟨by rw [← HD.out, List.length_drop, List.length_set, hl], fun _ => ⟨g, j, rfl, ha2.lt, fun k hk => ?_⟩⟩
        rw [ha2.cell (j := j + k) (by rw [List.length_set, hl]; omega), ← HD.out]
        congr 2
        rw [List.getD_eq_getElem?_getD, List.getD_eq_getElem?_getD, List.getElem?_drop])
      have HCV := Lib.hid (run_string HNums.out (65 - j) 26 5 9 Tryd.underlying26 Tryd.underlying5 Tryd.underlying9)
      have hsl := sl65 g j (by omega)
      clear hx hl ha hfew hj ha2
      generalize hexD (u : Int) = d at *
      go_upto_region 25 with (first
        | (refine wpList_runG (by rfl) _ (ix_run rfl rfl rfl (SG.out _)) ?_))
      clear hc hf
      generalize wr.setCell ⟨g, j, none⟩ (.int .u8 d) = w4 at *
      have hcv := HCV.out
      go_wp2_with fail
      go_ret2
      exact ⟨rfl, HBel.out⟩
end Go.Proofs.YtdoahlhkbhpgpaaDoor.adC
