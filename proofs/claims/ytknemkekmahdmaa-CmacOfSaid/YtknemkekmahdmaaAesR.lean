/-
  AES: the document's round keys.
-/
import Derived.Test.YtknemkekmahdmaaAesQ
namespace Go.Proofs.Ytknemkekmahdmaa.aesC
open Go.ChangeShapes Go.WideShapes Go.ChangeAt Go.RowKit
open Go.Proofs.Ytknemkekmahdmaa.memC Go.Proofs.Ytknemkekmahdmaa.genC Go.Proofs.Ytknemkekmahdmaa.aesM Go.Proofs.Ytknemkekmahdmaa.freeC
set_option linter.unusedVariables false
/-- the blocks that a call of the document's Rounds lays -/
structure WX (w : World) (k f : List Nat) (wr : World) : Prop where
  b0 : Bl 22 wr w.heap.size k
  b1 : Bl 47 wr (w.heap.size + 1) tbl
  b2 : Bl 49 wr (w.heap.size + 1 + 1) (zs 176)
  b3 : Bl 56 wr (w.heap.size + 1 + 1 + 1) f
  sz : wr.heap.size = w.heap.size + 1 + 1 + 1 + 1
  bel : Below w.heap.size w wr
structure OX (w : World) (f o : List Nat) (wr : World) : Prop where
  b2 : Bl 49 wr (w.heap.size + 1 + 1) (zs 176)
  b3 : Bl 56 wr (w.heap.size + 1 + 1 + 1) f
  b4 : Bl 49 wr (w.heap.size + 1 + 1 + 1 + 1) o
  bel : Below w.heap.size w wr
section
variable {w wr w' : World} {k f o : List Nat}
theorem WX.heap (B : WX w k f wr) (e : w'.heap = wr.heap) (e1 : w'.os = wr.os) (e2 : w'.tape = wr.tape) (e3 : w'.output = wr.output) : WX w k f w' :=
  ⟨B.b0.heap e, B.b1.heap e, B.b2.heap e, B.b3.heap e, by rw [e]; exact B.sz, B.bel.trans ⟨e1, e2, e3, by rw [e]; exact Nat.le_refl _, fun k _ => by rw [e]⟩⟩
theorem WX.s3 (B : WX w k f wr) (j x : Nat) : WX w k (f.set j x) (wr.setCell ⟨w.heap.size + 1 + 1 + 1, j, none⟩ (.int .u8 (x : Int))) :=
  ⟨B.b0.other (by show w.heap.size + 1 + 1 + 1 ≠ w.heap.size; omega) _, B.b1.other (by show w.heap.size + 1 + 1 + 1 ≠ w.heap.size + 1; omega) _, B.b2.other (by show w.heap.size + 1 + 1 + 1 ≠ w.heap.size + 1 + 1; omega) _, B.b3.stored j x, by simpa [World.setCell] using B.sz, B.bel.setCell (p := ⟨w.heap.size + 1 + 1 + 1, j, none⟩) (by show w.heap.size ≤ w.heap.size + 1 + 1 + 1; omega) _⟩
theorem wx_new (w : World) (k f : List Nat) : WX w k f ((((w.alloc (.cells (vec k) 22)).alloc (.cells (vec tbl) 47)).alloc (.cells (vec (zs 176)) 49)).alloc (.cells (vec f) 56)) := by
  obtain ⟨w1, h1⟩ : ∃ w1, w1 = w.alloc (.cells (vec k) 22) := ⟨_, rfl⟩
  obtain ⟨w2, h2⟩ : ∃ w2, w2 = w1.alloc (.cells (vec tbl) 47) := ⟨_, rfl⟩
  obtain ⟨w3, h3⟩ : ∃ w3, w3 = w2.alloc (.cells (vec (zs 176)) 49) := ⟨_, rfl⟩
  rw [← h1, ← h2, ← h3]
  have e1 : w1.heap.size = w.heap.size + 1 := by rw [h1, alloc_size]
  have e2 : w2.heap.size = w.heap.size + 1 + 1 := by rw [h2, alloc_size, e1]
  have e3 : w3.heap.size = w.heap.size + 1 + 1 + 1 := by rw [h3, alloc_size, e2]
  have a0 : Bl 22 w1 w.heap.size k := by rw [h1]; exact Bl.new _ _ _
  have a1 : Bl 47 w2 (w.heap.size + 1) tbl := by rw [h2, ← e1]; exact Bl.new _ _ _
  have a2 : Bl 49 w3 (w.heap.size + 1 + 1) (zs 176) := by rw [h3, ← e2]; exact Bl.new _ _ _
  have a02 : Bl 22 w2 w.heap.size k := by rw [h2]; exact a0.alloc _
  have a03 : Bl 22 w3 w.heap.size k := by rw [h3]; exact a02.alloc _
  have a13 : Bl 47 w3 (w.heap.size + 1) tbl := by rw [h3]; exact a1.alloc _
  have b1 : Below w.heap.size w w1 := by rw [h1]; exact alloc_below _ _
  have b2 : Below w.heap.size w w2 := by rw [h2]; exact b1.alloc b1.size _
  have b3 : Below w.heap.size w w3 := by rw [h3]; exact b2.alloc b2.size _
  refine ⟨a03.alloc _, a13.alloc _, a2.alloc _, ?_, by rw [alloc_size, e3], b3.alloc b3.size _⟩
  rw [← e3]; exact Bl.new _ _ _
theorem WX.out (B : WX w k f wr) (o : List Nat) : OX w f o (wr.alloc (.cells (vec o) 49)) := by
  refine ⟨B.b2.alloc _, B.b3.alloc _, ?_, B.bel.alloc B.bel.size _⟩
  rw [← B.sz]; exact Bl.new wr _ o
theorem OX.heap (B : OX w f o wr) (e : w'.heap = wr.heap) (e1 : w'.os = wr.os) (e2 : w'.tape = wr.tape) (e3 : w'.output = wr.output) : OX w f o w' :=
  ⟨B.b2.heap e, B.b3.heap e, B.b4.heap e, B.bel.trans ⟨e1, e2, e3, by rw [e]; exact Nat.le_refl _, fun k _ => by rw [e]⟩⟩
theorem OX.s4 (B : OX w f o wr) (j x : Nat) : OX w f (o.set j x) (wr.setCell ⟨w.heap.size + 1 + 1 + 1 + 1, j, none⟩ (.int .u8 (x : Int))) :=
  ⟨B.b2.other (by show w.heap.size + 1 + 1 + 1 + 1 ≠ w.heap.size + 1 + 1; omega) _, B.b3.other (by show w.heap.size + 1 + 1 + 1 + 1 ≠ w.heap.size + 1 + 1 + 1; omega) _, B.b4.stored j x, B.bel.setCell (p := ⟨w.heap.size + 1 + 1 + 1 + 1, j, none⟩) (by show w.heap.size ≤ w.heap.size + 1 + 1 + 1 + 1; omega) _⟩
end
theorem F_len (k : List Nat) : (FL k).length = (zs 176).length := by rw [FL_len, zs_len]
/-- how often the power was multiplied with 2 -/
def pe (i : Nat) : Nat := (i - 1) / 4
set_option maxRecDepth 100000 in
set_option maxHeartbeats 1000000 in
theorem refrounds_any (k : List Nat) (w : World) (hk : k.length = 16) (yk : BY k) :
    Calls Try.prog 25 #[.agg (vec k), .agg (vec tbl)] w (Ret w (.agg (vec (FL k)))) := by
  obtain ⟨X, hX⟩ : ∃ X, X = vec k := ⟨_, rfl⟩
  obtain ⟨T, hT⟩ : ∃ T, T = vec tbl := ⟨_, rfl⟩
  obtain ⟨Z, hZ⟩ : ∃ Z, Z = vec (zs 176) := ⟨_, rfl⟩
  have hzv := zero11
  rw [← hZ] at hzv
  have hzv2 := zero44
  rw [← hZ] at hzv2
  have T0 := Lib.hid (wx_new w k (zs 176))
  rw [← hX, ← hT]
  rw [← hX, ← hT, ← hZ] at T0
  obtain ⟨W, hW⟩ : ∃ W, W = (((w.alloc (.cells X 22)).alloc (.cells T 47)).alloc (.cells Z 49)).alloc (.cells Z 56) := ⟨_, rfl⟩
  rw [← hW] at T0
  have HZ := Lib.hid hZ.symm
  have HK := Lib.hid hk
  have YK := Lib.hid yk
  have YF := Lib.hid (FL_by yk hk)
  have FN := Lib.hid (F_len k)
  have UR := Lib.hid (show (Try.prog.info? 49).map (·.size) = some (vec (FL k)).size by rw [b176_info, vec_size, FL_len])
  have ZR := Lib.hid (show (vec (zs 176)).size = (vec (FL k)).size by rw [vec_size, vec_size, FL_len, zs_len])
  clear hX hT hZ hk yk
  go_enter Try.func25, Try.ntmps25
  go_upto_region 2 with fail
  rw [← hW]
  clear hW
  go_wp2_with fail
  go_loopw [6, 7] (fun y i wr => ∃ n : Nat, n ≤ 44 ∧ i = .int .i64 n ∧ y = .int .u8 ((rc (pe n) : Nat) : Int) ∧ WX w k (mixP (FL k) (zs 176) (n * 4)) wr) (fun _ i _ => 44 - (intOf i).toNat)
  case atStart => exact ⟨0, by omega, rfl, rfl, by rw [Nat.zero_mul, mixP_zero]; rw [HZ.out] at *; exact T0.out⟩
  case round =>
    obtain ⟨i, hi, rfl, rfl, BB⟩ := hrel
    by_cases hlt : i < 44
    · have hiz : (i : Int) < 44 := by omega
      by_cases h4 : i < 4
      · have hB : WX w k (mixP (FL k) (zs 176) (i * 4 + 0)) wr := BB
        have HB := Lib.hid hB
        have a4 : (i : Int) < 4 := by omega
        have a44 : ¬ (4 : Int) ≤ (i : Int) := by omega
        clear hB BB T0
        go_wp2_with fail
        go_loopw [8] (fun c wx => ∃ c' : Nat, c' ≤ 4 ∧ c = .int .i64 c' ∧ WX w k (mixP (FL k) (zs 176) (i * 4 + c')) wx) (fun c _ => 4 - (intOf c).toNat)
        case atStart => exact ⟨0, by omega, rfl, HB.out⟩
        case round =>
          obtain ⟨c, hc, rfl, BC⟩ := hrel
          by_cases hct : c < 4
          · have hcz : (c : Int) < 4 := by omega
            have hlen : (mixP (FL k) (zs 176) (i * 4 + c)).length = 176 := by rw [mixP_len FN.out, zs_len]
            have cw := BC.b3.cell (j := i * 4 + c) (by rw [hlen]; omega)
            have fw := BC.b3.frozen (i * 4 + c)
            have hst := fun (w' : World) (B : WX w k (mixP (FL k) (zs 176) (i * 4 + c)) w') => B.s3 (i * 4 + c) ((FL k).getD (i * 4 + c) 0)
            rw [mixP_set FN.out (by rw [zs_len]; omega)] at hst
            have HC := Lib.hid BC
            obtain ⟨i4, hi4⟩ : ∃ i4, i4 = 4 * i := ⟨_, rfl⟩
            obtain ⟨j, hj⟩ : ∃ j, j = i4 + c := ⟨_, rfl⟩
            have e1 : (4 : Int) * (i : Int) = (i4 : Int) := by omega
            have e2 : (i4 : Int) + (c : Int) = (j : Int) := by omega
            have i4z : (i4 : Int) < 16 := by omega
            have jz : (j : Int) < 16 := by omega
            have jn : j < 16 := by omega
            have w1 : IntKind.i64.wrap (i4 : Int) = (i4 : Int) := IntWalk.i64_in _ (by omega)
            have w2 : IntKind.i64.wrap (j : Int) = (j : Int) := IntWalk.i64_in _ (by omega)
            have ck := BC.b0.cell (j := j) (by rw [HK.out]; exact jn)
            have hxe : (FL k).getD (i * 4 + c) 0 = k.getD j 0 := by rw [show i * 4 + c = j by omega]; exact relA jn
            rw [hxe] at hst
            have HS := Lib.hid hst
            generalize k.getD j 0 = x at *
            generalize (mixP (FL k) (zs 176) (i * 4 + c)).getD (i * 4 + c) 0 = old at *
            clear hst BC hlen hi4 hj hxe
            go_upto_region 10 with fail
            go_still_tail 10, (by kernel_rfl)
            change wpList _ _ _ _ _ wr.drew
            have HS2 := Lib.hid (HS.out _ (HC.out.heap (w' := wr.drew) rfl rfl rfl rfl))
            go_wp2_with fail
            go_roundw
            case rel => exact ⟨c + 1, by omega, by go_num, HS2.out⟩
            case measure => simp [intOf]; omega
          · have e : c = 4 := by omega
            subst e
            have HE := Lib.hid (show WX w k (mixP (FL k) (zs 176) ((i + 1) * 4)) wr by rw [show (i + 1) * 4 = i * 4 + 4 by omega]; exact BC)
            have hpe : pe (i + 1) = pe i := by unfold pe; omega
            have HP := Lib.hid hpe
            clear hpe BC hct hc
            go_wp2_with fail
            go_roundw
            case rel => exact ⟨i + 1, by omega, by go_num, by rw [HP.out], HE.out⟩
            case measure => simp [intOf]; omega
      · by_cases hmod : i % 4 = 0
        · obtain ⟨p1, hp1⟩ : ∃ p1, i = p1 + 1 := ⟨i - 1, by omega⟩
          obtain ⟨p4, hp4⟩ : ∃ p4, i = p4 + 4 := ⟨i - 4, by omega⟩
          obtain ⟨n, hn⟩ : ∃ n, i = 4 * (n + 1) := ⟨i / 4 - 1, by omega⟩
          obtain ⟨v0, hv0⟩ : ∃ v0, v0 = (FL k).getD (p4 * 4 + 0) 0 ^^^ box ((FL k).getD (p1 * 4 + 1) 0) := ⟨_, rfl⟩
          obtain ⟨F', hF'⟩ : ∃ F', F' = (FL k).set (i * 4) v0 := ⟨_, rfl⟩
          have FN2 := Lib.hid (show F'.length = (zs 176).length by rw [hF', List.length_set, FN.out])
          have hB : WX w k (mixP F' (zs 176) (i * 4 + 0)) wr := by rw [hF', Nat.add_zero, mixP_later (Nat.le_refl _)]; exact BB
          have HB := Lib.hid hB
          have er : (i : Int) % 4 = 0 := by omega
          have a4 : ¬ (i : Int) < 4 := by omega
          have a44 : (4 : Int) ≤ (i : Int) := by omega
          have HP1 := Lib.hid hp1
          have HP4 := Lib.hid hp4
          have HN := Lib.hid hn
          have hpe : pe i = n := by unfold pe; omega
          have hpe2 : pe (i + 1) = n + 1 := by unfold pe; omega
          have hrc : rc (n + 1) = dbl (rc n) := rfl
          rw [hpe]
          have R0 := relB (c := 0) (cm := 1) YK.out HK.out hn (by omega) (by decide) hp1 hp4 rfl
          rw [if_pos rfl, ← hv0, Nat.add_zero] at R0
          have RB := Lib.hid (show ∀ c cm, c < 4 → cm = (c + 1) % 4 → F'.getD (i * 4 + c) 0 = (FL k).getD (p4 * 4 + c) 0 ^^^ box ((FL k).getD (p1 * 4 + cm) 0) from fun c cm hc hm => by
            by_cases h0 : c = 0
            · subst h0
              rw [hF', Nat.add_zero, getD_set_same (by rw [FL_len]; omega), hv0, hm]
            · rw [hF', getD_set_other (by omega), relB (c := c) (cm := cm) YK.out HK.out hn (by omega) hc hp1 hp4 hm, if_neg h0, Nat.xor_zero])
          have RO := Lib.hid (show ∀ j, j < i * 4 → F'.getD j 0 = (FL k).getD j 0 from fun j hj => by rw [hF', getD_set_other (by omega)])
          have RF := Lib.hid (show (mixP F' (zs 176) (i * 4 + 4)).set (i * 4) ((FL k).getD (i * 4) 0) = mixP (FL k) (zs 176) (i * 4 + 4) from by rw [hF']; exact mixP_fix FN.out (by omega) (by rw [zs_len]; omega))
          have RG := Lib.hid (show F'.getD (i * 4) 0 = v0 from by rw [hF', getD_set_same (by rw [FL_len]; omega)])
          have hv0b : v0 < 256 := by rw [hv0]; exact xor_lt (YF.out.at _) (box_lt _)
          have HX := Lib.hid (show bits .xor .u8 (v0 : Int) ((rc n : Nat) : Int) = (((FL k).getD (i * 4) 0 : Nat) : Int) by rw [R0]; exact xor_b hv0b (rc_lt n))
          have TT := Lib.hid (fun w => (show Calls Try.prog 27 #[.int .u8 ((rc n : Nat) : Int), .int .u8 2] w (Same w (.int .u8 ((rc (n + 1) : Nat) : Int))) from by rw [hrc, ← tms2 (rc_lt n)]; exact times_any (rc n) 2 w (rc_lt n) (by decide)))
          have HPE := Lib.hid (show rc (pe (i + 1)) = rc (n + 1) by rw [hpe2])
          generalize rc n = y0 at *
          generalize rc (n + 1) = y1 at *
          clear hB BB T0 hmod R0 hpe hpe2 hrc hn hv0 hF' hv0b hp1 hp4
          go_wp2_with fail
          go_loopw [8] (fun c wx => ∃ c' : Nat, c' ≤ 4 ∧ c = .int .i64 c' ∧ WX w k (mixP F' (zs 176) (i * 4 + c')) wx) (fun c _ => 4 - (intOf c).toNat)
          case atStart => exact ⟨0, by omega, rfl, HB.out⟩
          case round =>
            obtain ⟨c, hc, rfl, BC⟩ := hrel
            by_cases hct : c < 4
            · have hcz : (c : Int) < 4 := by omega
              have hlen : (mixP F' (zs 176) (i * 4 + c)).length = 176 := by rw [mixP_len FN2.out, zs_len]
              have cw := BC.b3.cell (j := i * 4 + c) (by rw [hlen]; omega)
              have fw := BC.b3.frozen (i * 4 + c)
              have hst := fun (w' : World) (B : WX w k (mixP F' (zs 176) (i * 4 + c)) w') => B.s3 (i * 4 + c) (F'.getD (i * 4 + c) 0)
              rw [mixP_set FN2.out (by rw [zs_len]; omega)] at hst
              have HC := Lib.hid BC
              have hp1 := HP1.out
              have hp4 := HP4.out
              have z1 : (i : Int) - 1 = (p1 : Int) := by omega
              have z4 : (i : Int) - 4 = (p4 : Int) := by omega
              have l1 : (p1 : Int) < 44 := by omega
              have l4 : (p4 : Int) < 44 := by omega
              have w1 : IntKind.i64.wrap (p1 : Int) = (p1 : Int) := IntWalk.i64_in _ (by omega)
              have w4 : IntKind.i64.wrap (p4 : Int) = (p4 : Int) := IntWalk.i64_in _ (by omega)
              obtain ⟨c1, hc1⟩ : ∃ c1, c1 = c + 1 := ⟨_, rfl⟩
              obtain ⟨cm, hcm⟩ : ∃ cm, cm = c1 % 4 := ⟨_, rfl⟩
              have y1z : (c : Int) + 1 = (c1 : Int) := by omega
              have y2z : (c1 : Int) % 4 = (cm : Int) := by omega
              have y3z : (c1 : Int).tmod 4 = (cm : Int) := by rw [Int.tmod_eq_emod_of_nonneg (by omega)]; exact y2z
              have cmz : (cm : Int) < 4 := by omega
              have wc1 : IntKind.i64.wrap (c1 : Int) = (c1 : Int) := IntWalk.i64_in _ (by omega)
              have wcm : IntKind.i64.wrap (cm : Int) = (cm : Int) := IntWalk.i64_in _ (by omega)
              have c4 := BC.b3.cell (j := p4 * 4 + c) (by rw [hlen]; omega)
              rw [mixP_new FN2.out (by omega), RO.out _ (by omega)] at c4
              have c1' := BC.b3.cell (j := p1 * 4 + cm) (by rw [hlen]; omega)
              rw [mixP_new FN2.out (by omega), RO.out _ (by omega)] at c1'
              rw [RB.out c cm hct (by rw [hcm, hc1])] at hst
              have hyb := YF.out.at (p1 * 4 + cm)
              have hx := xor_b (YF.out.at (p4 * 4 + c)) (box_lt ((FL k).getD (p1 * 4 + cm) 0))
              have cb := BC.b1.cell (j := (FL k).getD (p1 * 4 + cm) 0) (by rw [show tbl.length = 256 by decide +kernel]; exact hyb)
              rw [show tbl.getD ((FL k).getD (p1 * 4 + cm) 0) 0 = box ((FL k).getD (p1 * 4 + cm) 0) from rfl] at cb
              have HS := Lib.hid hst
              generalize (FL k).getD (p4 * 4 + c) 0 ^^^ box ((FL k).getD (p1 * 4 + cm) 0) = z at *
              generalize (FL k).getD (p4 * 4 + c) 0 = x at *
              generalize box ((FL k).getD (p1 * 4 + cm) 0) = by' at *
              generalize (FL k).getD (p1 * 4 + cm) 0 = y at *
              have yz : (y : Int) < 256 := by omega
              generalize (mixP F' (zs 176) (i * 4 + c)).getD (i * 4 + c) 0 = old at *
              clear hst BC hlen hp1 hp4 hc1 hcm hyb
              go_upto_region 12 with fail
              go_still_tail 21, (by kernel_rfl)
              change wpList _ _ _ _ _ wr.drew
              have HS2 := Lib.hid (HS.out _ (HC.out.heap (w' := wr.drew) rfl rfl rfl rfl))
              go_wp2_with fail
              go_roundw
              case rel => exact ⟨c + 1, by omega, by go_num, HS2.out⟩
              case measure => simp [intOf]; omega
            · have e : c = 4 := by omega
              subst e
              have hlen : (mixP F' (zs 176) (i * 4 + 4)).length = 176 := by rw [mixP_len FN2.out, zs_len]
              have cw := BC.b3.cell (j := i * 4) (by rw [hlen]; omega)
              have fw := BC.b3.frozen (i * 4)
              rw [mixP_new FN2.out (by omega), RG.out] at cw
              have hst := fun (w' : World) (B : WX w k (mixP F' (zs 176) (i * 4 + 4)) w') => B.s3 (i * 4) ((FL k).getD (i * 4) 0)
              rw [RF.out, show i * 4 + 4 = (i + 1) * 4 by omega] at hst
              have HS := Lib.hid hst
              have HC := Lib.hid BC
              have hx := HX.out
              generalize (FL k).getD (i * 4) 0 = z at *
              clear hst BC hlen hct hc
              go_upto_region 15 with fail
              go_still_tail 8, (by kernel_rfl)
              change wpList _ _ _ _ _ wr.drew
              have HS2 := Lib.hid (HS.out _ (by rw [show (i + 1) * 4 = i * 4 + 4 by omega]; exact HC.out.heap (w' := wr.drew) rfl rfl rfl rfl))
              go_wp2_with (first | (go_at_call 27; (with_reducible refine (TT.out _).mono ?_); rintro e w1 ⟨rfl, rfl⟩))
              go_roundw
              case rel => exact ⟨i + 1, by omega, by go_num, by rw [HPE.out], HS2.out⟩
              case measure => simp [intOf]; omega
        · have hB : WX w k (mixP (FL k) (zs 176) (i * 4 + 0)) wr := BB
          have HB := Lib.hid hB
          obtain ⟨r, hr⟩ : ∃ r, r = i % 4 := ⟨_, rfl⟩
          have er : (i : Int) % 4 = (r : Int) := by omega
          have er0 : ¬ (r : Int) = 0 := by omega
          have HR := Lib.hid (show i % 4 ≠ 0 by omega)
          have a4 : ¬ (i : Int) < 4 := by omega
          have a44 : (4 : Int) ≤ (i : Int) := by omega
          obtain ⟨p1, hp1⟩ : ∃ p1, i = p1 + 1 := ⟨i - 1, by omega⟩
          obtain ⟨p4, hp4⟩ : ∃ p4, i = p4 + 4 := ⟨i - 4, by omega⟩
          have HP1 := Lib.hid hp1
          have HP4 := Lib.hid hp4
          clear hB BB T0 hr hmod hp1 hp4
          go_wp2_with fail
          go_loopw [8] (fun c wx => ∃ c' : Nat, c' ≤ 4 ∧ c = .int .i64 c' ∧ WX w k (mixP (FL k) (zs 176) (i * 4 + c')) wx) (fun c _ => 4 - (intOf c).toNat)
          case atStart => exact ⟨0, by omega, rfl, HB.out⟩
          case round =>
            obtain ⟨c, hc, rfl, BC⟩ := hrel
            by_cases hct : c < 4
            · have hcz : (c : Int) < 4 := by omega
              have hlen : (mixP (FL k) (zs 176) (i * 4 + c)).length = 176 := by rw [mixP_len FN.out, zs_len]
              have cw := BC.b3.cell (j := i * 4 + c) (by rw [hlen]; omega)
              have fw := BC.b3.frozen (i * 4 + c)
              have hst := fun (w' : World) (B : WX w k (mixP (FL k) (zs 176) (i * 4 + c)) w') => B.s3 (i * 4 + c) ((FL k).getD (i * 4 + c) 0)
              rw [mixP_set FN.out (by rw [zs_len]; omega)] at hst
              have HC := Lib.hid BC
              have hp1 := HP1.out
              have hp4 := HP4.out
              have z1 : (i : Int) - 1 = (p1 : Int) := by omega
              have z4 : (i : Int) - 4 = (p4 : Int) := by omega
              have l1 : (p1 : Int) < 44 := by omega
              have l4 : (p4 : Int) < 44 := by omega
              have w1 : IntKind.i64.wrap (p1 : Int) = (p1 : Int) := IntWalk.i64_in _ (by omega)
              have w4 : IntKind.i64.wrap (p4 : Int) = (p4 : Int) := IntWalk.i64_in _ (by omega)
              have c4 := BC.b3.cell (j := p4 * 4 + c) (by rw [hlen]; omega)
              rw [mixP_new FN.out (by omega)] at c4
              have c1 := BC.b3.cell (j := p1 * 4 + c) (by rw [hlen]; omega)
              rw [mixP_new FN.out (by omega)] at c1
              rw [relC YK.out HK.out HR.out hlt hct HP1.out HP4.out] at hst
              have hx := xor_b (YF.out.at (p4 * 4 + c)) (YF.out.at (p1 * 4 + c))
              have HS := Lib.hid hst
              generalize (FL k).getD (p4 * 4 + c) 0 ^^^ (FL k).getD (p1 * 4 + c) 0 = z at *
              generalize (FL k).getD (p4 * 4 + c) 0 = x at *
              generalize (FL k).getD (p1 * 4 + c) 0 = y at *
              generalize (mixP (FL k) (zs 176) (i * 4 + c)).getD (i * 4 + c) 0 = old at *
              clear hst BC hlen hp1 hp4
              go_upto_region 13 with fail
              go_still_tail 17, (by kernel_rfl)
              change wpList _ _ _ _ _ wr.drew
              have HS2 := Lib.hid (HS.out _ (HC.out.heap (w' := wr.drew) rfl rfl rfl rfl))
              go_wp2_with fail
              go_roundw
              case rel => exact ⟨c + 1, by omega, by go_num, HS2.out⟩
              case measure => simp [intOf]; omega
            · have e : c = 4 := by omega
              subst e
              have HE := Lib.hid (show WX w k (mixP (FL k) (zs 176) ((i + 1) * 4)) wr by rw [show (i + 1) * 4 = i * 4 + 4 by omega]; exact BC)
              have hpe : pe (i + 1) = pe i := by have := HR.out; unfold pe; omega
              have HP := Lib.hid hpe
              clear hpe BC hct hc
              go_wp2_with fail
              go_roundw
              case rel => exact ⟨i + 1, by omega, by go_num, by rw [HP.out], HE.out⟩
              case measure => simp [intOf]; omega
    · have e : i = 44 := by omega
      subst e
      have hf : mixP (FL k) (zs 176) (44 * 4) = FL k := by have := mixP_full FN.out; rwa [zs_len] at this
      rw [hf] at BB
      have hO := BB.out (zs 176)
      rw [HZ.out] at hO
      have HO := Lib.hid hO
      have HSZ := Lib.hid BB.sz
      clear BB hf hlt hi T0 hO
      go_upto_region 18 with fail
      rw [HSZ.out]
      have HO2 := HO.out
      generalize wr.alloc (.cells Z 49) = w3 at *
      have H3 := Lib.hid HO2
      clear HO HO2 hzv hzv2 HSZ
      go_wp2_with fail
      go_loopw [10] (fun i wr => ∃ n : Nat, n ≤ 44 ∧ i = .int .i64 n ∧ OX w (FL k) (mixP (FL k) (zs 176) (n * 4)) wr) (fun i _ => 44 - (intOf i).toNat)
      case atStart => exact ⟨0, by omega, rfl, by rw [Nat.zero_mul, mixP_zero]; exact H3.out⟩
      case round =>
        obtain ⟨i, hi, rfl, BB⟩ := hrel
        by_cases hlt : i < 44
        · have hiz : (i : Int) < 44 := by omega
          have HB := Lib.hid (show OX w (FL k) (mixP (FL k) (zs 176) (i * 4 + 0)) wr from BB)
          obtain ⟨q, hq⟩ : ∃ q, q = i / 4 := ⟨_, rfl⟩
          obtain ⟨r, hr⟩ : ∃ r, r = i % 4 := ⟨_, rfl⟩
          obtain ⟨m, hm⟩ : ∃ m, m = r * 4 := ⟨_, rfl⟩
          have e1 : (i : Int) / 4 = (q : Int) := by omega
          have e2 : (i : Int) % 4 = (r : Int) := by omega
          have e3 : (r : Int) * 4 = (m : Int) := by omega
          have t1 : (i : Int).tdiv 4 = (q : Int) := by rw [Int.tdiv_eq_ediv_of_nonneg (by omega)]; exact e1
          have t2 : (i : Int).tmod 4 = (r : Int) := by rw [Int.tmod_eq_emod_of_nonneg (by omega)]; exact e2
          have q11 : (q : Int) < 11 := by omega
          have r4 : (r : Int) < 4 := by omega
          have m12 : (m : Int) ≤ 12 := by omega
          have wq : IntKind.i64.wrap (q : Int) = (q : Int) := IntWalk.i64_in _ (by omega)
          have wm : IntKind.i64.wrap (m : Int) = (m : Int) := IntWalk.i64_in _ (by omega)
          have HQ := Lib.hid (show i * 4 = q * 16 + m by omega)
          clear BB hq hr hm
          go_wp2_with fail
          go_loopw [11] (fun c wx => ∃ c' : Nat, c' ≤ 4 ∧ c = .int .i64 c' ∧ OX w (FL k) (mixP (FL k) (zs 176) (i * 4 + c')) wx) (fun c _ => 4 - (intOf c).toNat)
          case atStart => exact ⟨0, by omega, rfl, HB.out⟩
          case round =>
            obtain ⟨c, hc, rfl, BC⟩ := hrel
            by_cases hct : c < 4
            · have hcz : (c : Int) < 4 := by omega
              obtain ⟨s, hs⟩ : ∃ s, s = m + c := ⟨_, rfl⟩
              have e4 : (m : Int) + (c : Int) = (s : Int) := by omega
              have s16 : (s : Int) < 16 := by omega
              have ws : IntKind.i64.wrap (s : Int) = (s : Int) := IntWalk.i64_in _ (by omega)
              have HQ2 := Lib.hid (show i * 4 + c = q * 16 + s by rw [HQ.out, hs]; omega)
              have c3 := BC.b3.cell (j := i * 4 + c) (by rw [FL_len]; omega)
              have hlen : (mixP (FL k) (zs 176) (i * 4 + c)).length = 176 := by rw [mixP_len FN.out, zs_len]
              have c4 := BC.b4.cell (j := q * 16 + s) (by rw [hlen, ← HQ2.out]; omega)
              have f4 := BC.b4.frozen (q * 16 + s)
              have hst := fun (w' : World) (B : OX w (FL k) (mixP (FL k) (zs 176) (i * 4 + c)) w') => B.s4 (i * 4 + c) ((FL k).getD (i * 4 + c) 0)
              rw [mixP_set FN.out (by rw [zs_len]; omega)] at hst
              have HS : Hid (∀ w', OX w (FL k) (mixP (FL k) (zs 176) (i * 4 + c)) w' → OX w (FL k) (mixP (FL k) (zs 176) (i * 4 + c + 1)) (w'.setCell ⟨w.heap.size + 1 + 1 + 1 + 1, q * 16 + s, none⟩ (.int .u8 (((FL k).getD (i * 4 + c) 0 : Nat) : Int)))) := Lib.hid (fun w' B => by rw [← HQ2.out]; exact hst w' B)
              have HC := Lib.hid BC
              generalize (mixP (FL k) (zs 176) (i * 4 + c)).getD (q * 16 + s) 0 = old at *
              generalize (FL k).getD (i * 4 + c) 0 = x at *
              clear hst BC hlen hs
              go_upto_region 24 with fail
              go_still_tail 14, (by kernel_rfl)
              change wpList _ _ _ _ _ wr.drew
              have HS2 := Lib.hid (HS.out _ (HC.out.heap (w' := wr.drew) rfl rfl rfl rfl))
              go_wp2_with fail
              go_roundw
              case rel => exact ⟨_, _, _, _, _, _, _, _, _, _, _, _, _, _, _, _, _, _, _, ⟨c + 1, by omega, by go_num, HS2.out⟩, rfl⟩
              case measure => simp [intOf]; omega
            · have e : c = 4 := by omega
              subst e
              have HE := Lib.hid (show OX w (FL k) (mixP (FL k) (zs 176) ((i + 1) * 4)) wr by rw [show (i + 1) * 4 = i * 4 + 4 by omega]; exact BC)
              clear BC hct hc
              go_wp2_with fail
              go_roundw
              case rel => exact ⟨i + 1, by omega, by go_num, HE.out⟩
              case measure => simp [intOf]; omega
        · have e : i = 44 := by omega
          subst e
          have hf : mixP (FL k) (zs 176) (44 * 4) = FL k := by have := mixP_full FN.out; rwa [zs_len] at this
          rw [hf] at BB
          have G1 := Lib.hid BB.b4.row
          have G2 := Lib.hid BB.b2.row
          have BQ := Lib.hid BB.bel
          have OT := Lib.hid (vec_one (FL k))
          generalize vec (FL k) = R at *
          clear BB hlt hi hf
          go_wp2_with (first
            | (refine wpList_load_row rfl 49 (.tmp 9) rfl (w.heap.size + 1 + 1 + 1 + 1) rfl _ _ _ _ G1.out Try.underlying49 rfl UR.out ?_)
            | (refine wpList_store_row rfl 49 (.tmp 4) (.tmp 112) rfl (w.heap.size + 1 + 1) _ rfl rfl _ _ G2.out UR.out ZR.out OT.out ?_))
          refine bodyPost_ret (v := .agg R) (results_cell_row Try.results25 _ _ (w.heap.size + 1 + 1) _ _ _ _ (by rfl) (setRow_heap _ _ _ _ _ _ G2.out) Try.underlying49 rfl UR.out) rfl ⟨rfl, ?_⟩
          exact below_setRow BQ.out (by omega) _
end Go.Proofs.Ytknemkekmahdmaa.aesC
