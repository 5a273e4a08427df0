/-
  1 texts of a proof, joined.
-/
import Derived.Test.YtflfkhcbkhdahaaMg24
import Derived.Test.YtflfkhcbkhdahaaMg3
import Derived.Lib.SmallJoins

/-
  The laws' sign that the program is there.
-/
namespace Go.Proofs.Ytflfkhcbkhdahaa.mkC
open Go.ChangeShapes Go.WideShapes Go.ChangeAt Go.RowKit
open Go.Proofs.Ytflfkhcbkhdahaa.memC Go.Proofs.Ytflfkhcbkhdahaa.genC Go.Proofs.Ytflfkhcbkhdahaa.butC Go.Proofs.Ytflfkhcbkhdahaa.freeC Go.Proofs.Ytflfkhcbkhdahaa.adC Go.Proofs.Ytflfkhcbkhdahaa.rtC
set_option linter.unusedVariables false
def tenM (b : Int) : List Int := 10 :: b :: zs 14
theorem tenM_ok {b : Int} (h : Byte b) : (tenM b).length = 16 ∧ ∀ x ∈ tenM b, Byte x := ⟨rfl, fun x hx => by
  unfold tenM at hx
  rcases List.mem_cons.1 hx with rfl | hx
  · unfold Byte; decide
  · rcases List.mem_cons.1 hx with rfl | hx
    · exact h
    · exact zsByte 14 x hx⟩
def aKt : Kt := ⟨0, false, tenM 0, 8, 0, 0, 1, 2, 1, false⟩
def cKt : Kt := ⟨0, false, tenM 1, 8, 0, 0, 1, 2, 1, false⟩
def bKt : Kt := ⟨0, false, tenM 1, 16, 0, 0, 1, 3, 1, false⟩
def pPr : Pr := ⟨false, zs 16, 0, false, tenM 5, 0⟩
theorem aKt_ok : aKt.Ok := ⟨rfl, (tenM_ok (by unfold Byte; decide)).2, by unfold aKt; decide, by unfold aKt; decide, by unfold aKt; decide, by unfold aKt; decide, by unfold aKt Byte; decide, by unfold aKt Byte; decide, by unfold aKt; decide⟩
theorem bKt_ok : bKt.Ok := ⟨rfl, (tenM_ok (by unfold Byte; decide)).2, by unfold bKt; decide, by unfold bKt; decide, by unfold bKt; decide, by unfold bKt; decide, by unfold bKt Byte; decide, by unfold bKt Byte; decide, by unfold bKt; decide⟩
theorem cKt_ok : cKt.Ok := ⟨rfl, (tenM_ok (by unfold Byte; decide)).2, by unfold cKt; decide, by unfold cKt; decide, by unfold cKt; decide, by unfold cKt; decide, by unfold cKt Byte; decide, by unfold cKt Byte; decide, by unfold cKt; decide⟩
theorem pPr_ok : pPr.Ok := ⟨rfl, rfl, zsByte 16, (tenM_ok (by unfold Byte; decide)).2, by unfold pPr; decide, by unfold pPr; decide⟩
def r1K : Rg := addR ⟨0, []⟩ (aKt, [107])
set_option maxRecDepth 100000 in
theorem al_1 : addErr ⟨0, []⟩ (aKt, [107]) = 0 ∧ addN ⟨0, []⟩ (aKt, [107]) = 1 := ⟨by kernel_rfl, by kernel_rfl⟩
set_option maxRecDepth 100000 in
theorem al_2 : addErr r1K (bKt, [107]) = 7 ∧ addN r1K (bKt, [107]) = 0 := ⟨by kernel_rfl, by kernel_rfl⟩
theorem al_3 : addR r1K (bKt, [107]) = r1K := by unfold addR; rw [if_neg (by rw [al_2.1]; decide)]
set_option maxRecDepth 100000 in
theorem al_4 : (sendP r1K pPr 1).2 = 0 ∧ (sendP r1K pPr 1).1.1.ri = 2 := ⟨by kernel_rfl, by kernel_rfl⟩
set_option maxRecDepth 100000 in
theorem bt_16 : Try.prog.built 23 [(0, .int .u8 10)] = some ((tenM 0).map (Value.int .u8)).toArray ∧ Try.prog.built 23 [(0, .int .u8 10), (1, .int .u8 1)] = some ((tenM 1).map (Value.int .u8)).toArray ∧ Try.prog.built 23 [(0, .int .u8 10), (1, .int .u8 5)] = some ((tenM 5).map (Value.int .u8)).toArray := ⟨by kernel_rfl, by kernel_rfl, by kernel_rfl⟩
set_option maxRecDepth 100000 in
theorem bt_adr : Try.prog.built 25 [(1, .agg ((tenM 0).map (Value.int .u8)).toArray)] = some (adrV false (tenM 0)) ∧ Try.prog.built 25 [(1, .agg ((tenM 1).map (Value.int .u8)).toArray)] = some (adrV false (tenM 1)) ∧ Try.prog.built 25 [(1, .agg ((tenM 5).map (Value.int .u8)).toArray)] = some (adrV false (tenM 5)) := ⟨by kernel_rfl, by kernel_rfl, by kernel_rfl⟩
def endV : Array Value := (adrK false (tenM 5) ++ [Value.int .u16 0]).toArray
set_option maxRecDepth 100000 in
theorem bt_end : Try.prog.built 28 [(0, .agg (adrV false (tenM 5)))] = some endV := by kernel_rfl
set_option maxRecDepth 100000 in
theorem bt_pair : Try.prog.built 30 [(1, .agg endV)] = some (prV pPr) := by kernel_rfl
set_option maxRecDepth 100000 in
theorem bt_key (A : Option Addr) : Try.prog.built 49 [(1, .agg (adrV false (tenM 0))), (2, .int .i64 8), (5, .int .u8 1), (6, .int .u8 2), (7, .int .i64 1), (8, .slice A 1 1)] = some (ktV aKt A 1 1) := by kernel_rfl
set_option maxRecDepth 100000 in
theorem put_a (A : Option Addr) : ((ktV aKt A 1 1).toList.take 1 ++ (adrV false (tenM 1)).toList ++ (ktV aKt A 1 1).toList.drop (1 + (adrV false (tenM 1)).size)).toArray = ktV cKt A 1 1 := by kernel_rfl
set_option maxRecDepth 100000 in
theorem put_b (A : Option Addr) : ((ktV cKt A 1 1).setIfInBounds 18 (.int .i64 16)).setIfInBounds 22 (.int .u8 3) = ktV bKt A 1 1 := by kernel_rfl
theorem key_m {w : World} {gm : Nat} {k : Kt} (hk : k.Ok) (h : w.heap[gm]? = some (.cells #[.int .u8 107] 5 (1, 2))) : KeAt w w.heap.size ⟨k, some ⟨gm, 0, none⟩, 1, 1, [107]⟩ := by
  refine ⟨hk, ⟨rfl, fun _ => ⟨gm, 0, rfl, lt_of_row h, fun i hi => ?_⟩⟩, fun x hx => ?_, Nat.le_refl _, by show (1 : Nat) ≤ _; decide⟩
  · have hi2 : i < 1 := hi
    obtain rfl : i = 0 := by omega
    rw [cell_of_row w gm (0 + 0) _ _ (1, 2) h]; rfl
  · have hx2 : x ∈ [(107 : Int)] := hx
    rw [List.mem_singleton.1 hx2]; unfold Byte; decide
set_option maxRecDepth 100000 in
set_option maxHeartbeats 8000000 in
theorem alive_any {Tb : World → (Nat → Prop) → Nat → Rg → Prop} (F : FrK Tb) : Alive := by
  intro w
  have NC := Lib.hid (fun (w' : World) => F.new w')
  have KTB := Lib.hid F.keep
  have LTK := Lib.hid F.lt
  have ADC := Lib.hid F.add
  have SDC := Lib.hid F.sends
  have he := fun (a : Addr) (w' : World) => eql_ptr_nilM (P := Try.prog) w' a Try.underlying31
  have E0 := Lib.hid bt_16
  have E1 := Lib.hid bt_adr
  obtain ⟨D0, hD0⟩ : ∃ D, D = ((tenM 0).map (Value.int .u8)).toArray := ⟨_, rfl⟩
  obtain ⟨D1, hD1⟩ : ∃ D, D = ((tenM 1).map (Value.int .u8)).toArray := ⟨_, rfl⟩
  obtain ⟨D5, hD5⟩ : ∃ D, D = ((tenM 5).map (Value.int .u8)).toArray := ⟨_, rfl⟩
  rw [← hD0, ← hD1, ← hD5] at E0 E1
  obtain ⟨X0, hX0⟩ : ∃ D, D = adrV false (tenM 0) := ⟨_, rfl⟩
  obtain ⟨X1, hX1⟩ : ∃ D, D = adrV false (tenM 1) := ⟨_, rfl⟩
  obtain ⟨X5, hX5⟩ : ∃ D, D = adrV false (tenM 5) := ⟨_, rfl⟩
  have BE := Lib.hid bt_end
  have BP := Lib.hid bt_pair
  have BK := Lib.hid bt_key
  have PU := Lib.hid put_a
  rw [← hX0, ← hX1, ← hX5] at E1
  rw [← hX5] at BE
  rw [← hX0] at BK
  rw [← hX1] at PU
  have IX1 := Lib.hid (show (Try.prog.info? 25).map (·.size) = some X1.size by rw [hX1, adrV_size rfl]; exact addr_info)
  have SX1 := Lib.hid (show 1 + X1.size ≤ 26 by rw [hX1, adrV_size rfl]; decide)
  have OX1 := Lib.hid (show X1.all (·.oneCell') = true by rw [hX1]; exact adrV_one _ _)
  obtain ⟨CP, hCP⟩ : ∃ C, C = prV pPr := ⟨_, rfl⟩
  obtain ⟨CE, hCE⟩ : ∃ C, C = endV := ⟨_, rfl⟩
  rw [← hCE] at BE BP
  rw [← hCP] at BP
  have SDX := Lib.hid (fun (w' : World) (S : Nat → Prop) (t : Nat) (h : Tb w' S t r1K) => (show Calls Try.prog 15 #[.pointer (some ⟨t, 0, none⟩), .agg CP, .int .u8 1] w' (fun e w2 => ∃ q : Ke, KeAt w2 w2.heap.size q ∧ q.k.ri = 2 ∧ e = .returned (.tuple #[.agg q.V, .int .i64 0]) ∧ Below w'.heap.size w' w2) by
    rw [hCP]
    refine (SDC.out w' S t r1K pPr 1 h (Inv.zero.add aKt_ok (fun b hb => by simp at hb; subst hb; unfold Byte; decide)) pPr_ok (by unfold Byte; decide)).mono ?_
    rintro e w2 ⟨q, h1, h2, h3, h4⟩
    rw [al_4.1] at h3
    exact ⟨q, h1, by have h5 := al_4.2; rw [← h2] at h5; exact h5, h3, h4⟩))
  have AD1 := Lib.hid (fun (w' : World) (S : Nat → Prop) (t : Nat) (A : Option Addr) (h : Tb w' S t ⟨0, []⟩) (hk : KeAt w' w'.heap.size ⟨aKt, A, 1, 1, [107]⟩) => (show Calls Try.prog 12 #[.pointer (some ⟨t, 0, none⟩), .agg (ktV aKt A 1 1)] w' (TurnR Tb w' S t (.tuple #[.int .i64 1, .int .i64 0]) r1K) by
    have h9 := ADC.out w' S t ⟨0, []⟩ ⟨aKt, A, 1, 1, [107]⟩ h Inv.zero hk (by show (1 : Nat) ≤ 200; decide)
    rw [show (Ke.val ⟨aKt, A, 1, 1, [107]⟩) = (aKt, [107]) from rfl, al_1.1, al_1.2] at h9
    exact h9))
  have AD2 := Lib.hid (fun (w' : World) (S : Nat → Prop) (t : Nat) (A : Option Addr) (h : Tb w' S t r1K) (hk : KeAt w' w'.heap.size ⟨bKt, A, 1, 1, [107]⟩) => (show Calls Try.prog 12 #[.pointer (some ⟨t, 0, none⟩), .agg (ktV bKt A 1 1)] w' (TurnR Tb w' S t (.tuple #[.int .i64 0, .int .i64 7]) r1K) by
    have h9 := ADC.out w' S t r1K ⟨bKt, A, 1, 1, [107]⟩ h (Inv.zero.add aKt_ok (fun b hb => by simp at hb; subst hb; unfold Byte; decide)) hk (by show (1 : Nat) ≤ 200; decide)
    rw [show (Ke.val ⟨bKt, A, 1, 1, [107]⟩) = (bKt, [107]) from rfl, al_2.1, al_2.2, al_3] at h9
    exact h9))
  obtain ⟨ZV, hZV⟩ : ∃ Z, Z = ktV zKt none 0 0 := ⟨_, rfl⟩
  have HZP := Lib.hid (show ∀ w' : World, (zeroValue 49).run Try.prog w' = .ok (.agg ZV) w' by rw [hZV]; exact zeroPk)
  have ZSZ := Lib.hid (show ZV.size = 26 by rw [hZV]; exact zV_size)
  have IA := Lib.hid (fun A => (show (Try.prog.info? 49).map (·.size) = some (ktV aKt A 1 1).size by rw [ktV_size aKt_ok]; exact pk_info))
  have SA := Lib.hid (fun A => (show (ktV aKt A 1 1).size = 26 from ktV_size aKt_ok))
  have OA := Lib.hid (fun A => (show (ktV aKt A 1 1).all (·.oneCell') = true from kt_ones))
  have IB := Lib.hid (fun A => (show (Try.prog.info? 49).map (·.size) = some (ktV bKt A 1 1).size by rw [ktV_size bKt_ok]; exact pk_info))
  have PB := Lib.hid put_b
  have C18 := Lib.hid (fun (A : Option Addr) => (show (ktV cKt A 1 1)[18]? = some (.int .i64 8) from by unfold ktV; rw [List.getElem?_toArray]; exact kt_len cKt_ok))
  have C22 := Lib.hid (fun (A : Option Addr) => (show (ktV cKt A 1 1)[22]? = some (.int .u8 2) from by unfold ktV; rw [List.getElem?_toArray]; exact kt_ri cKt_ok))
  clear F hD0 hD1 hD5 hX0 hX1 hX5 hCP hCE hZV ADC SDC
  go_enter Try.func8, Try.ntmps8
  go_upto_region 2 with (first
    | (go_at_call 6; (refine (NC.out _).mono ?_); rintro e w2 ⟨t, S1, rfl, hT, hS, hb⟩
       have HB := Lib.hid hb
       have TT := Lib.hid hT
       have SS := Lib.hid hS
       clear hb hT hS))
  have he1 := he ⟨t, 0, none⟩ w2
  clear he
  go_upto_region 4 with fail
  clear he1
  have hzp := HZP.out
  have kc : (convert 39 39 (.slice (some ⟨w2.heap.size, 0, none⟩) 1 1)).run Try.prog (w2.alloc (.cells #[.int .u8 107] 5)) = .ok (.slice (some ⟨w2.heap.size, 0, none⟩) 1 1) (w2.alloc (.cells #[.int .u8 107] 5 (1, 2))) := Lib.run_convert_bytes_const (P := Try.prog) w2 39 5 #[.int .u8 107] 1 1 Try.underlying39 Try.underlying5
  obtain ⟨w3, hw3⟩ : ∃ v, v = w2.alloc (.cells #[.int .u8 107] 5 (1, 2)) := ⟨_, rfl⟩
  obtain ⟨gm, hgm⟩ : ∃ g, g = w2.heap.size := ⟨_, rfl⟩
  have RM := Lib.hid (show w3.heap[gm]? = some (.cells #[.int .u8 107] 5 (1, 2)) by rw [hw3, hgm]; exact heap_alloc_new _ _)
  have A3 := Lib.hid (show Below w2.heap.size w2 w3 by rw [hw3]; exact alloc_below _ _)
  have Z3 := Lib.hid (show w3.heap.size = w2.heap.size + 1 by rw [hw3]; exact alloc_size _ _)
  have HW3 := Lib.hid hw3
  have HGM := Lib.hid hgm
  have GMX : w2.heap.size ≤ gm := by rw [hgm]; exact Nat.le_refl _
  have GMY := Lib.hid GMX
  clear GMX hgm
  rw [← hw3] at kc
  clear hw3
  go_upto_region 5 with (first
    | (with_reducible refine at_build 23 ?_; refine wpList_runG (by kernel_rfl) _ (built_runM (T := 23) (L := [(0, .int .u8 10)]) rfl rfl E0.out.1) ?_)
    | (with_reducible refine at_build 25 ?_; refine wpList_runG (by kernel_rfl) _ (built_runM (T := 25) (L := [(1, .agg D0)]) rfl rfl E1.out.1) ?_)
    | (with_reducible refine at_build 49 ?_; refine wpList_runG (by kernel_rfl) _ (built_runM (T := 49) (L := [(1, .agg X0), (2, .int .i64 8), (5, .int .u8 1), (6, .int .u8 2), (7, .int .i64 1), (8, .slice (some ⟨w2.heap.size, 0, none⟩) 1 1)]) rfl rfl (BK.out _)) ?_)
    | (refine wpList_store_row rfl 49 (.tmp 2) (.tmp 17) rfl w3.heap.size (ktV aKt (some ⟨w2.heap.size, 0, none⟩) 1 1) rfl rfl _ _ (heap_alloc_new _ _) (IA.out _) (by rw [ZSZ.out, SA.out]) (OA.out _) ?_; rw [World.setRow_alloc_new]))
  clear kc
  rw [← HGM.out]
  clear HGM HW3
  obtain ⟨CA, hCA⟩ : ∃ C, C = ktV aKt (some ⟨gm, 0, none⟩) 1 1 := ⟨_, rfl⟩
  obtain ⟨CC, hCC⟩ : ∃ C, C = ktV cKt (some ⟨gm, 0, none⟩) 1 1 := ⟨_, rfl⟩
  obtain ⟨CB, hCB⟩ : ∃ C, C = ktV bKt (some ⟨gm, 0, none⟩) 1 1 := ⟨_, rfl⟩
  have ICA := Lib.hid (show (Try.prog.info? 49).map (·.size) = some CA.size by rw [hCA]; exact IA.out _)
  have ICB := Lib.hid (show (Try.prog.info? 49).map (·.size) = some CB.size by rw [hCB]; exact IB.out _)
  have SCA := Lib.hid (show CA.size = 26 by rw [hCA]; exact SA.out _)
  have OCA := Lib.hid (show CA.all (·.oneCell') = true by rw [hCA]; exact OA.out _)
  have PUA := Lib.hid (show (CA.toList.take 1 ++ X1.toList ++ CA.toList.drop (1 + X1.size)).toArray = CC by rw [hCA, hCC]; exact PU.out _)
  have PUB := Lib.hid (show (CC.setIfInBounds 18 (.int .i64 16)).setIfInBounds 22 (.int .u8 3) = CB by rw [hCC, hCB]; exact PB.out _)
  have CC18 := Lib.hid (show CC[18]? = some (.int .i64 8) by rw [hCC]; exact C18.out _)
  have CC22 := Lib.hid (show CC[22]? = some (.int .u8 2) by rw [hCC]; exact C22.out _)
  have ADA := Lib.hid (fun (w' : World) (S : Nat → Prop) (h : Tb w' S t ⟨0, []⟩) (hk : KeAt w' w'.heap.size ⟨aKt, some ⟨gm, 0, none⟩, 1, 1, [107]⟩) => (show Calls Try.prog 12 #[.pointer (some ⟨t, 0, none⟩), .agg CA] w' (TurnR Tb w' S t (.tuple #[.int .i64 1, .int .i64 0]) r1K) by rw [hCA]; exact AD1.out w' S t _ h hk))
  have ADB := Lib.hid (fun (w' : World) (S : Nat → Prop) (h : Tb w' S t r1K) (hk : KeAt w' w'.heap.size ⟨bKt, some ⟨gm, 0, none⟩, 1, 1, [107]⟩) => (show Calls Try.prog 12 #[.pointer (some ⟨t, 0, none⟩), .agg CB] w' (TurnR Tb w' S t (.tuple #[.int .i64 0, .int .i64 7]) r1K) by rw [hCB]; exact AD2.out w' S t _ h hk))
  have KMS := Lib.hid (fun (w' : World) (k : Kt) (hk : k.Ok) (h : w'.heap[gm]? = some (.cells #[.int .u8 107] 5 (1, 2))) => key_m hk h)
  rw [← hCA]
  clear hCA hCC hCB AD1 AD2 IA SA OA IB PB PU C18 C22
  obtain ⟨y4, hy4⟩ : ∃ y, y = w3.alloc (.cells CA 49) := ⟨_, rfl⟩
  obtain ⟨g2, hg2⟩ : ∃ g, g = w3.heap.size := ⟨_, rfl⟩
  rw [← hy4]
  rw [← hg2]
  have R2 := Lib.hid (show y4.heap[g2]? = some (.cells CA 49 (0, 0)) by rw [hy4, hg2]; exact heap_alloc_new _ _)
  have B4 := Lib.hid (show Below w3.heap.size w3 y4 by rw [hy4]; exact alloc_below _ _)
  clear hy4 hg2
  go_upto_region 6 with (first
    | (refine wpList_load_row rfl 49 (.tmp 2) rfl g2 rfl _ _ _ _ R2.out Try.underlying49 rfl ICA.out ?_)
    | (refine wpList_store_row rfl 49 (.tmp 3) (.tmp 18) rfl y4.heap.size CA rfl rfl _ _ (heap_alloc_new _ _) ICA.out (by rw [ZSZ.out, SCA.out]) OCA.out ?_; rw [World.setRow_alloc_new]))
  obtain ⟨y5, hy5⟩ : ∃ y, y = y4.alloc (.cells CA 49) := ⟨_, rfl⟩
  obtain ⟨g3, hg3⟩ : ∃ g, g = y4.heap.size := ⟨_, rfl⟩
  rw [← hy5]
  rw [← hg3]
  have R3 := Lib.hid (show y5.heap[g3]? = some (.cells CA 49 (0, 0)) by rw [hy5, hg3]; exact heap_alloc_new _ _)
  have B5 := Lib.hid (show Below y4.heap.size y4 y5 by rw [hy5]; exact alloc_below _ _)
  have N3 := Lib.hid (show g2 < g3 ∧ gm < g3 ∧ w2.heap.size ≤ g3 by
    have h1 := lt_of_row R2.out
    have h2 := lt_of_row RM.out
    have h3 := A3.out.size
    have h4 := B4.out.size
    omega)
  clear hy5 hg3
  go_upto_region 7 with (first
    | (with_reducible refine at_build 23 ?_; refine wpList_runG (by kernel_rfl) _ (built_runM (T := 23) (L := [(0, .int .u8 10), (1, .int .u8 1)]) rfl rfl E0.out.2.1) ?_)
    | (with_reducible refine at_build 25 ?_; refine wpList_runG (by kernel_rfl) _ (built_runM (T := 25) (L := [(1, .agg D1)]) rfl rfl E1.out.2.1) ?_)
    | (refine partC.wpList_store_part rfl 25 (.tmp 21) (.tmp 20) rfl g3 1 X1 rfl rfl 49 _ R3.out IX1.out (by rw [SCA.out]; exact SX1.out) OX1.out ?_
       rw [PUA.out]
       obtain ⟨ya, hya⟩ : ∃ y, y = y5.setRow g3 CC := ⟨_, rfl⟩
       rw [← hya]
       have RA := Lib.hid (show ya.heap[g3]? = some (.cells CC 49 (0, 0)) by rw [hya]; exact setRow_heap _ _ _ _ _ _ R3.out)
       have BA := Lib.hid (show But g3 y5 ya by rw [hya]; exact (But.refl y5).setRow CC)
       have c18 : ya.cell? ⟨g3, 18, none⟩ = some (.int .i64 8) := by rw [cell_of_row ya g3 18 _ _ (0, 0) RA.out]; exact CC18.out
       have c22 : ya.cell? ⟨g3, 22, none⟩ = some (.int .u8 2) := by rw [cell_of_row ya g3 22 _ _ (0, 0) RA.out]; exact CC22.out
       have f18 := frozen_of_row ya g3 18 _ _ RA.out
       have f22 := frozen_of_row ya g3 22 _ _ RA.out
       clear hya))
  clear c18 c22 f18 f22
  obtain ⟨y6, hy6⟩ : ∃ y, y = (ya.setCell ⟨g3, 18, none⟩ (.int .i64 16)).setCell ⟨g3, 22, none⟩ (.int .u8 3) := ⟨_, rfl⟩
  rw [← hy6]
  have R3 := Lib.hid (show y6.heap[g3]? = some (.cells CB 49 (0, 0)) by
    rw [hy6, ← PUB.out]
    exact heap_setCell_same _ g3 22 _ _ (.int .u8 3) (heap_setCell_same ya g3 18 _ _ (.int .i64 16) RA.out))
  have BT6 := Lib.hid (show But g3 y5 y6 by rw [hy6]; exact (BA.out.setCell 18 _).setCell 22 _)
  have R2 := Lib.hid (show y6.heap[g2]? = some (.cells CA 49 (0, 0)) from (BT6.out.block g2 (by have := lt_of_row R2.out; have := B5.out.size; omega) (by have := N3.out; omega)).trans ((B5.out.block _ (lt_of_row R2.out)).trans R2.out))
  have B35 := Lib.hid (show Below w3.heap.size w3 y5 from B4.out.trans (B5.out.mono B4.out.size))
  have RM := Lib.hid (show y6.heap[gm]? = some (.cells #[.int .u8 107] 5 (1, 2)) from (BT6.out.block gm (by have := lt_of_row RM.out; have := B35.out.size; omega) (by have := N3.out; omega)).trans ((B35.out.block _ (lt_of_row RM.out)).trans RM.out))
  have B26 := Lib.hid (show Below w2.heap.size w2 y6 from (A3.out.trans (B35.out.mono A3.out.size)).trans (BT6.out.to_below N3.out.2.2 (Nat.le_trans A3.out.size B35.out.size)))
  have GM := Lib.hid (show w2.heap.size ≤ gm ∧ w2.heap.size ≤ g3 from ⟨GMY.out, N3.out.2.2⟩)
  have TT6 := Lib.hid (KTB.out _ _ _ _ _ TT.out B26.out.size (fun k hk => B26.out.block k (LTK.out _ _ _ _ TT.out k hk)))
  have HB6 := Lib.hid (show Below w.heap.size w y6 from HB.out.trans (B26.out.mono HB.out.size))
  have KA6 := Lib.hid (KMS.out y6 aKt aKt_ok RM.out)
  clear hy6
  go_upto_region 8 with (first
    | (refine wpList_load_row rfl 49 (.tmp 2) rfl g2 rfl _ _ _ _ R2.out Try.underlying49 rfl ICA.out ?_)
    | (go_at_call 12; (with_reducible refine (ADA.out _ _ TT6.out KA6.out).mono ?_); rintro e y7 ⟨rfl, S2, hT, hS, hF⟩
       have TT7 := Lib.hid hT
       have SS7 := Lib.hid (show ∀ k, S2 k → w.heap.size ≤ k from fun k hk => (hS k hk).elim (SS.out k) (fun h => Nat.le_trans HB6.out.size h))
       have HB7 := Lib.hid (show Below w.heap.size w y7 from HB6.out.trans (hF.to_below SS.out HB6.out.size))
       have NS := fun k (h : w2.heap.size ≤ k) (hs : S1 k) => (show False by have := LTK.out _ _ _ _ TT.out k hs; omega)
       have R3 := Lib.hid (hF.row R3.out (NS _ N3.out.2.2))
       have RM := Lib.hid (hF.row RM.out (NS _ GM.out.1))
       clear NS hT hS hF))
  have KB7 := Lib.hid (KMS.out y7 bKt bKt_ok RM.out)
  go_upto_region 9 with (first
    | (refine wpList_load_row rfl 49 (.tmp 3) rfl g3 rfl _ _ _ _ R3.out Try.underlying49 rfl ICB.out ?_)
    | (go_at_call 12; (with_reducible refine (ADB.out _ _ TT7.out KB7.out).mono ?_); rintro e y8 ⟨rfl, S3, hT, hS, hF⟩
       have TT8 := Lib.hid hT
       have HB8 := Lib.hid (show Below w.heap.size w y8 from HB7.out.trans (hF.to_below SS7.out HB7.out.size))
       clear hT hS hF))
  go_upto_region 10 with (first
    | (with_reducible refine at_build 23 ?_; refine wpList_runG (by kernel_rfl) _ (built_runM (T := 23) (L := [(0, .int .u8 10), (1, .int .u8 5)]) rfl rfl E0.out.2.2) ?_)
    | (with_reducible refine at_build 25 ?_; refine wpList_runG (by kernel_rfl) _ (built_runM (T := 25) (L := [(1, .agg D5)]) rfl rfl E1.out.2.2) ?_)
    | (with_reducible refine at_build 28 ?_; refine wpList_runG (by kernel_rfl) _ (built_runM (T := 28) (L := [(0, .agg X5)]) rfl rfl BE.out) ?_)
    | (with_reducible refine at_build 30 ?_; refine wpList_runG (by kernel_rfl) _ (built_runM (T := 30) (L := [(1, .agg CE)]) rfl rfl BP.out) ?_)
    | (go_at_call 15; (with_reducible refine (SDX.out _ _ _ TT8.out).mono ?_); rintro e y9 ⟨q, hke, hri, rfl, hb⟩
       have HB9 := Lib.hid (show Below w.heap.size w y9 from HB8.out.trans (hb.mono HB8.out.size))
       have IQ := Lib.hid (show (Try.prog.info? 49).map (·.size) = some q.V.size by rw [Ke.V_size hke]; exact pk_info)
       have ZQ := Lib.hid (show ZV.size = q.V.size by rw [ZSZ.out, Ke.V_size hke])
       have OQ := Lib.hid (show q.V.all (·.oneCell') = true from kt_ones)
       have RI := Lib.hid (fun (w' : World) (g : Nat) (h : w'.heap[g]? = some (.cells q.V 49 (0, 0))) => (show w'.cell? ⟨g, 22, none⟩ = some (.int .u8 2) by rw [← hri]; exact kt_cell h (kt_ri hke.ok)))
       clear hke hri hb)
    | (refine wpList_store_row rfl 49 (.tmp 8) (.tmp 43) rfl y9.heap.size q.V rfl rfl _ _ (heap_alloc_new _ _) IQ.out ZQ.out OQ.out ?_; rw [World.setRow_alloc_new]))
  have c2 := RI.out _ _ (heap_alloc_new y9 (.cells q.V 49))
  have HBA := Lib.hid (show Below w.heap.size w (y9.alloc (.cells q.V 49)) from HB9.out.trans ((alloc_below _ _).mono HB9.out.size))
  clear hzp
  generalize y9.alloc (.cells q.V 49) = y10 at *
  generalize y9.heap.size = g8 at *
  go_wp2_with go_skip
  go_ret
  exact ⟨rfl, HBA.out⟩
end Go.Proofs.Ytflfkhcbkhdahaa.mkC
