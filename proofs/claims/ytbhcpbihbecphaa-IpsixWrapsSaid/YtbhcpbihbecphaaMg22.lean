/-
  2 texts of a proof, joined.
-/
import Derived.Test.YtbhcpbihbecphaaMg21
import Derived.Test.YtbhcpbihbecphaaMg15
import Derived.Test.YtbhcpbihbecphaaMg10
import Derived.Test.YtbhcpbihbecphaaMg13
import Derived.Test.YtbhcpbihbecphaaMg9
import Derived.Test.YtbhcpbihbecphaaMg20
import Derived.StillTailTactics
import Derived.Deep.RegionWith
import Derived.Laws.Rows
import Derived.Test.YtbhcpbihbecphaaMg19
import Derived.Test.YtbhcpbihbecphaaMg1

/-
  One hop less: the program's and the document's.
-/
namespace Go.Proofs.Ytbhcpbihbecphaa.sxC
open Go.ChangeShapes Go.WideShapes Go.ChangeAt Go.RowKit
open Go.Proofs.Ytbhcpbihbecphaa.memC Go.Proofs.Ytbhcpbihbecphaa.genC Go.Proofs.Ytbhcpbihbecphaa.butC Go.Proofs.Ytbhcpbihbecphaa.freeC Go.Proofs.Ytbhcpbihbecphaa.adC Go.Proofs.Ytbhcpbihbecphaa.pkC
set_option linter.unusedVariables false
/-- bytes with one hop less, and an error -/
def HpR (w : World) (bs : List Int) (e : Ending) (w' : World) : Prop :=
  ∃ A n c, e = .returned (.tuple #[.slice A n c, .int .i64 (hpE bs)]) ∧ Nums .u8 w' w'.heap.size A n (hpX bs) ∧ Below w.heap.size w w'
set_option maxRecDepth 100000 in
set_option maxHeartbeats 4000000 in
theorem chop_any (A : Option Addr) (n c : Nat) (bs : List Int) (w : World) (hb : Nums .u8 w w.heap.size A n bs) (hy : ∀ x ∈ bs, Byte x) (hn : n ≤ 9000) (hnc : n ≤ c) (hcm : c ≤ 9223372036854775807) :
    Calls Try.prog 17 #[.slice A n c] w (HpR w bs) := by
  have hzv := zeroPkt
  obtain ⟨i0, hi0, hz0, hz1, hz2⟩ := info_parts byte_inf
  have T1 := Lib.hid hi0; have T2 := Lib.hid hz0; have T3 := Lib.hid hz1; have T4 := Lib.hid hz2
  have HN := Lib.hid (fun w' (h : Below w.heap.size w w') => (hb.below h).more h.size)
  have HY := Lib.hid hy
  have HL := Lib.hid hb.len
  have P0 := Lib.hid (cparse_any A n c bs w hb hy hn)
  have UPP := Lib.hid (fun A n c => (pkC (psP_ok hy) A n c).info)
  have SPP := Lib.hid (fun A n c => (pkC zPkt_ok none 0 0).size.trans (pkC (psP_ok hy) A n c).size.symm)
  have OPP := Lib.hid (fun A n c => pkt_one (psP bs) A n c)
  have HPP := Lib.hid (fun A n c => (pkC (psP_ok hy) A n c).hops)
  have HC := Lib.hid hnc
  have HM := Lib.hid hcm
  have H9 := Lib.hid hn
  obtain ⟨k, hk⟩ : ∃ k, k = psE bs := ⟨_, rfl⟩
  have EK := Lib.hid hk
  unfold PsR at P0
  rw [← hk] at P0
  generalize hZ : pktV zPkt none 0 0 = Z at *
  clear hb hy hn hnc hcm hk hZ hi0 hz0 hz1 hz2
  go_enter Try.func17, Try.ntmps17
  go_upto_region 2 with (first
    | (go_at_call 15; (refine P0.out.mono ?_); rintro e v1 ⟨A1, n1, c1, rfl, N1, B1⟩
       have HB1 := Lib.hid B1
       have UP := Lib.hid (UPP.out A1 n1 c1)
       have SP := Lib.hid (SPP.out A1 n1 c1)
       have OP := Lib.hid (OPP.out A1 n1 c1)
       have HO := Lib.hid (HPP.out A1 n1 c1)
       generalize pktV (psP bs) A1 n1 c1 = PK at *
       have RN := Lib.hid (show (v1.alloc (.cells Z 28)).heap[v1.heap.size]? = some (.cells Z 28 (0, 0)) from heap_alloc_new v1 _)
       clear N1 B1)
    | (refine wpList_store_row rfl 28 (.tmp 4) (.tmp 10) rfl v1.heap.size _ rfl rfl _ _ RN.out UP.out SP.out OP.out ?_))
  rw [World.setRow_alloc_new]
  have R2 := Lib.hid (show (v1.alloc (.cells PK 28)).heap[v1.heap.size]? = some (.cells PK 28 (0, 0)) from heap_alloc_new v1 _)
  have HB2 := Lib.hid (HB1.out.trans ((alloc_below v1 (.cells PK 28)).mono HB1.out.size))
  have k35 : (v1.alloc (.cells PK 28)).cell? ⟨v1.heap.size, 35, none⟩ = some (.int .u8 (psP bs).hops) := PkC.cell R2.out HO.out
  clear RN UPP SPP OPP HPP P0 HB1 hzv
  generalize v1.alloc (.cells PK 28) = v2 at *
  by_cases hk0 : k = 0
  rotate_left
  · have q : (k == 0) = false := beq_eq_false_iff_ne.2 hk0
    have E1 : hpE bs = k := by unfold hpE; rw [← EK.out, if_pos hk0]
    have E2 : hpX bs = [] := by unfold hpX; rw [E1, if_neg hk0]
    have E1 := Lib.hid E1
    have E2 := Lib.hid E2
    clear hk0
    go_wp2_with fail
    go_ret2
    exact ⟨none, 0, 0, by rw [E1.out]; rfl, by rw [E2.out]; exact Nums.none_ 0, HB2.out⟩
  subst hk0
  have h40 := (psE_ok EK.out.symm).1
  have eh : (psP bs).hops = bs.getD 7 0 := by unfold psP; rw [if_pos EK.out.symm]; rfl
  rw [eh] at k35
  have hx := getD_bytes HY.out 7
  unfold Byte at hx
  obtain ⟨x, hxe⟩ : ∃ x, x = bs.getD 7 0 := ⟨_, rfl⟩
  rw [← hxe] at k35 hx
  have EX7 := Lib.hid hxe
  obtain ⟨hx0, hx1⟩ := hx
  have H40 := Lib.hid h40
  clear eh hxe h40
  by_cases hx2 : x ≤ 1
  · have E1 : hpE bs = 1 := by unfold hpE; rw [if_neg (fun h => h EK.out.symm), ← EX7.out, if_pos (by omega)]
    have E2 : hpX bs = [] := by unfold hpX; rw [E1]; rfl
    have E1 := Lib.hid E1
    have E2 := Lib.hid E2
    go_wp2_with fail
    go_ret2
    exact ⟨none, 0, 0, by rw [E1.out]; rfl, by rw [E2.out]; exact Nums.none_ 0, HB2.out⟩
  have d2 : decide (x ≤ 1) = false := decide_eq_false hx2
  have E1 := Lib.hid (show hpE bs = 0 by unfold hpE; rw [if_neg (fun h => h EK.out.symm), ← EX7.out, if_neg (by omega)])
  go_upto_region 6 with fail
  clear d2 k35
  have CL := Lib.hid (octC.clone_any A n c bs v2 (HN.out v2 HB2.out) (by have := H9.out; omega))
  go_upto_region 7 with (first
    | (go_at_call 36; (refine CL.out.mono ?_); rintro e v3 ⟨A2, c2, he, O, g1, g2, N, B⟩
       rw [HL.out] at he O g1
       subst he
       have O3 := Lib.hid O
       have HB3 := Lib.hid (HB2.out.trans (B.mono HB2.out.size))
       clear O g1 g2 N B))
  have hn40 : 40 ≤ n := by have := H40.out; have := HL.out; omega
  have LN := Lib.hid hn40
  obtain ⟨g, rfl, hg0, hg1, hcell, hfz⟩ := O3.out.row (by omega)
  have c7 := hcell 7 (by omega)
  have f7 := hfz 7
  rw [← EX7.out] at c7
  have lz : (7 : Int) < (n : Int) := by omega
  have w7 : IntKind.u8.wrap (x - 1) = x - 1 := IntWalk.u8_in _ (by omega)
  have O4 := Lib.hid (O3.out.stored 7 (x - 1))
  have B4 := Lib.hid (HB3.out.trans ((Below.refl _ _).setCell (p := ⟨g, 7, none⟩) (show w.heap.size ≤ g by have := HB2.out.size; omega) (.int .u8 (x - 1))))
  obtain ⟨x7, hx7⟩ : ∃ x7, x7 = x - 1 := ⟨_, rfl⟩
  have EXX := Lib.hid hx7
  clear hcell hfz hg0 hg1 hn40
  go_wp2_with fail
  go_ret2
  refine ⟨_, n, c2, by rw [E1.out]; rfl, ?_, B4.out⟩
  have e : hpX bs = bs.set 7 (x - 1) := by unfold hpX hpL; rw [if_pos E1.out, EX7.out]
  rw [e]
  exact O4.out.nums
set_option maxRecDepth 100000 in
set_option maxHeartbeats 4000000 in
theorem rhop_any (A : Option Addr) (n c : Nat) (bs : List Int) (w : World) (hb : Nums .u8 w w.heap.size A n bs) (hy : ∀ x ∈ bs, Byte x) (hn : n ≤ 9000) (hnc : n ≤ c) (hcm : c ≤ 9223372036854775807) :
    Calls Try.prog 18 #[.slice A n c] w (HpR w bs) := by
  have hzv := zeroPkt
  obtain ⟨i0, hi0, hz0, hz1, hz2⟩ := info_parts byte_inf
  have T1 := Lib.hid hi0; have T2 := Lib.hid hz0; have T3 := Lib.hid hz1; have T4 := Lib.hid hz2
  have HN := Lib.hid (fun w' (h : Below w.heap.size w w') => (hb.below h).more h.size)
  have HY := Lib.hid hy
  have HL := Lib.hid hb.len
  have P0 := Lib.hid (rparse_any A n c bs w hb hy hn hnc hcm)
  have UPP := Lib.hid (fun A n c => (pkC (psP_ok hy) A n c).info)
  have SPP := Lib.hid (fun A n c => (pkC zPkt_ok none 0 0).size.trans (pkC (psP_ok hy) A n c).size.symm)
  have OPP := Lib.hid (fun A n c => pkt_one (psP bs) A n c)
  have HPP := Lib.hid (fun A n c => (pkC (psP_ok hy) A n c).hops)
  have HC := Lib.hid hnc
  have HM := Lib.hid hcm
  have H9 := Lib.hid hn
  obtain ⟨k, hk⟩ : ∃ k, k = psE bs := ⟨_, rfl⟩
  have EK := Lib.hid hk
  unfold PsR at P0
  rw [← hk] at P0
  generalize hZ : pktV zPkt none 0 0 = Z at *
  clear hb hy hn hnc hcm hk hZ hi0 hz0 hz1 hz2
  go_enter Try.func18, Try.ntmps18
  go_upto_region 2 with (first
    | (go_at_call 16; (refine P0.out.mono ?_); rintro e v1 ⟨A1, n1, c1, rfl, N1, B1⟩
       have HB1 := Lib.hid B1
       have UP := Lib.hid (UPP.out A1 n1 c1)
       have SP := Lib.hid (SPP.out A1 n1 c1)
       have OP := Lib.hid (OPP.out A1 n1 c1)
       have HO := Lib.hid (HPP.out A1 n1 c1)
       generalize pktV (psP bs) A1 n1 c1 = PK at *
       have RN := Lib.hid (show (v1.alloc (.cells Z 28)).heap[v1.heap.size]? = some (.cells Z 28 (0, 0)) from heap_alloc_new v1 _)
       clear N1 B1)
    | (refine wpList_store_row rfl 28 (.tmp 4) (.tmp 10) rfl v1.heap.size _ rfl rfl _ _ RN.out UP.out SP.out OP.out ?_))
  rw [World.setRow_alloc_new]
  have R2 := Lib.hid (show (v1.alloc (.cells PK 28)).heap[v1.heap.size]? = some (.cells PK 28 (0, 0)) from heap_alloc_new v1 _)
  have HB2 := Lib.hid (HB1.out.trans ((alloc_below v1 (.cells PK 28)).mono HB1.out.size))
  have k35 : (v1.alloc (.cells PK 28)).cell? ⟨v1.heap.size, 35, none⟩ = some (.int .u8 (psP bs).hops) := PkC.cell R2.out HO.out
  clear RN UPP SPP OPP HPP P0 HB1 hzv
  generalize v1.alloc (.cells PK 28) = v2 at *
  by_cases hk0 : k = 0
  rotate_left
  · have q : (k == 0) = false := beq_eq_false_iff_ne.2 hk0
    have E1 : hpE bs = k := by unfold hpE; rw [← EK.out, if_pos hk0]
    have E2 : hpX bs = [] := by unfold hpX; rw [E1, if_neg hk0]
    have E1 := Lib.hid E1
    have E2 := Lib.hid E2
    clear hk0
    go_wp2_with fail
    go_ret2
    exact ⟨none, 0, 0, by rw [E1.out]; rfl, by rw [E2.out]; exact Nums.none_ 0, HB2.out⟩
  subst hk0
  have h40 := (psE_ok EK.out.symm).1
  have eh : (psP bs).hops = bs.getD 7 0 := by unfold psP; rw [if_pos EK.out.symm]; rfl
  rw [eh] at k35
  have hx := getD_bytes HY.out 7
  unfold Byte at hx
  obtain ⟨x, hxe⟩ : ∃ x, x = bs.getD 7 0 := ⟨_, rfl⟩
  rw [← hxe] at k35 hx
  have EX7 := Lib.hid hxe
  obtain ⟨hx0, hx1⟩ := hx
  have H40 := Lib.hid h40
  clear eh hxe h40
  by_cases hx2 : x < 2
  · have E1 : hpE bs = 1 := by unfold hpE; rw [if_neg (fun h => h EK.out.symm), ← EX7.out, if_pos (by omega)]
    have E2 : hpX bs = [] := by unfold hpX; rw [E1]; rfl
    have E1 := Lib.hid E1
    have E2 := Lib.hid E2
    go_wp2_with fail
    go_ret2
    exact ⟨none, 0, 0, by rw [E1.out]; rfl, by rw [E2.out]; exact Nums.none_ 0, HB2.out⟩
  have d2 : decide (x < 2) = false := decide_eq_false hx2
  have E1 := Lib.hid (show hpE bs = 0 by unfold hpE; rw [if_neg (fun h => h EK.out.symm), ← EX7.out, if_neg (by omega)])
  go_upto_region 6 with fail
  clear d2 k35
  have NR := Lib.hid (HN.out v2 HB2.out)
  go_upto_region 7 with (first
    | (at_builtin; (refine wpList_app _ rfl (.const (.slice none 0 0)) (.tmp 18) _ rfl 5 i0 _ 1 Try.underlying26 T1.out T2.out T3.out T4.out rfl v2.heap.size _ [] rfl (Own.nil _ v2.heap.size) _ _ n c bs rfl NR.out (by have := H9.out; simp only [maxLen, List.length_nil]; omega) (by have := H9.out; simp only [List.length_nil]; omega) (Nat.le_refl _) ?_)
       intro v' v3 O' hg'
       have BG : Below v2.heap.size v2 v3 := Below.grown (Below.refl _ _) hg' (Nat.le_refl _) fun g hg => by cases hg
       obtain ⟨A2, c2, ev, _, _, _⟩ := O'.form
       simp only [List.nil_append] at ev O'
       rw [HL.out] at ev
       subst ev
       have O3 := Lib.hid O'
       have HB3 := Lib.hid (HB2.out.trans (BG.mono HB2.out.size))
       clear O' hg' BG))
  have hn40 : 40 ≤ n := by have := H40.out; have := HL.out; omega
  have LN := Lib.hid hn40
  obtain ⟨g, rfl, hg0, hg1, hcell, hfz⟩ := O3.out.row (by omega)
  have c7 := hcell 7 (by omega)
  have f7 := hfz 7
  rw [← EX7.out] at c7
  have lz : (7 : Int) < (n : Int) := by omega
  have w7 : IntKind.u8.wrap (x - 1) = x - 1 := IntWalk.u8_in _ (by omega)
  have O4 := Lib.hid (O3.out.stored 7 (x - 1))
  have B4 := Lib.hid (HB3.out.trans ((Below.refl _ _).setCell (p := ⟨g, 7, none⟩) (show w.heap.size ≤ g by have := HB2.out.size; omega) (.int .u8 (x - 1))))
  obtain ⟨x7, hx7⟩ : ∃ x7, x7 = x - 1 := ⟨_, rfl⟩
  have EXX := Lib.hid hx7
  clear hcell hfz hg0 hg1 hn40
  go_wp2_with fail
  go_ret2
  refine ⟨_, n, c2, by rw [E1.out]; rfl, ?_, B4.out⟩
  have e : hpX bs = bs.set 7 (x - 1) := by unfold hpX hpL; rw [if_pos E1.out, EX7.out]
  rw [e]
  exact O4.out.nums
end Go.Proofs.Ytbhcpbihbecphaa.sxC

/-
  A packet's bytes: the program's.
-/
namespace Go.Proofs.Ytbhcpbihbecphaa.pkC
open Go.ChangeShapes Go.WideShapes Go.ChangeAt Go.RowKit
open Go.Proofs.Ytbhcpbihbecphaa.memC Go.Proofs.Ytbhcpbihbecphaa.genC Go.Proofs.Ytbhcpbihbecphaa.butC Go.Proofs.Ytbhcpbihbecphaa.freeC Go.Proofs.Ytbhcpbihbecphaa.adC
set_option linter.unusedVariables false
theorem or_bit64 {f : Int} (h0 : 0 ≤ f) (i : Nat) (hi : i ≤ 20) (h1 : f < 2 ^ i) : bits .or .u64 f (2 ^ i) = f + 2 ^ i := by
  obtain ⟨n, rfl⟩ : ∃ n : Nat, f = n := ⟨f.toNat, by omega⟩
  have hp : (2 : Int) ^ i = ((2 ^ i : Nat) : Int) := by simp
  rw [hp] at h1 ⊢
  have hn : n < 2 ^ i := by omega
  have hlt : 2 ^ i ≤ 2 ^ 20 := Nat.pow_le_pow_right (by decide) hi
  have hlt2 : 2 ^ i ≤ 1048576 := by simpa using hlt
  rw [Go.u64_or n ((2 ^ i : Nat) : Int) (by omega) (by omega) (by omega) (by omega)]
  have e : ((n : Int).toNat ||| ((2 ^ i : Nat) : Int).toNat) = n + 2 ^ i := by
    have e1 : (n : Int).toNat = n := by omega
    have e2 : ((2 ^ i : Nat) : Int).toNat = 2 ^ i := by omega
    have h := Nat.shiftLeft_add_eq_or_of_lt hn 1
    rw [Nat.shiftLeft_eq, Nat.one_mul] at h
    rw [e1, e2, Nat.or_comm, ← h]
    omega
  rw [e]
  omega
end Go.Proofs.Ytbhcpbihbecphaa.pkC
