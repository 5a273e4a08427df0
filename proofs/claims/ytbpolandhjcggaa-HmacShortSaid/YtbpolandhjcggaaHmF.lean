/-
  The code's hmac: Block.
-/
import Derived.Test.YtbpolandhjcggaaHmE
import Derived.Laws.CopyOwn
namespace Go.Proofs.Ytbpolandhjcggaa.hmC
open Go.ChangeShapes Go.WideShapes Go.ChangeAt Go.RowKit
open Go.Proofs.Ytbpolandhjcggaa.memC Go.Proofs.Ytbpolandhjcggaa.genC Go.Proofs.Ytbpolandhjcggaa.shaM Go.Proofs.Ytbpolandhjcggaa.shaC Go.Proofs.Ytbpolandhjcggaa.shaN Go.Proofs.Ytbpolandhjcggaa.butC Go.Proofs.Ytbpolandhjcggaa.hmM Go.Proofs.Ytbpolandhjcggaa.freeC Go.Proofs.Ytbpolandhjcggaa.partsC
set_option linter.unusedVariables false
theorem cat1 (A : Option Addr) (n c : Nat) (bs : List Int) : catL [⟨A, n, c, bs⟩] = bs := by simp [catL]
theorem cat2 (A A2 : Option Addr) (n c n2 c2 : Nat) (bs bs2 : List Int) : catL [⟨A, n, c, bs⟩, ⟨A2, n2, c2, bs2⟩] = bs ++ bs2 := by simp [catL]
/-- sha.Of of one part that the call lays -/
theorem sha1 {w : World} {A : Option Addr} {n c : Nat} {bs : List Int} (h : PartAt w w.heap.size ⟨A, n, c, bs⟩) :
    Calls Try.prog 20 #[.slice (some ⟨w.heap.size, 0, none⟩) 1 1] (w.alloc (.cells #[.slice A n c] 22)) fun e w' => e = .returned (.agg ((shaL bs).map (Value.int .u8)).toArray) ∧ Below w.heap.size w w' :=
  (ofp_any _ 1 1 _ _ (parts1 h 22) rfl (by decide)).mono fun e w' h2 => ⟨by have := h2.1; rw [cat1] at this; exact this, (alloc_below w _).trans (h2.2.mono (alloc_below w (.cells #[.slice A n c] 22)).size)⟩
theorem splice_blk {ks : List Int} (h : ks.length ≤ 64) : splice ((nz 64).map (Value.int .u8)) 0 (ks.map (Value.int .u8)) = (ks ++ nz (64 - ks.length)).map (Value.int .u8) := by
  unfold splice nz
  rw [List.take_zero, List.nil_append, List.map_append, List.length_map, Nat.zero_add, List.map_replicate, List.map_replicate, List.drop_replicate]
/-- the blocks that a call of the code's Block lays -/
structure KB (w : World) (ks : List Int) (A : Option Addr) (wr : World) : Prop where
  r0 : Arr .u8 31 wr w.heap.size (nz 64)
  r1 : Arr .u8 31 wr (w.heap.size + 1) (nz 64)
  src : Nums .u8 wr wr.heap.size A ks.length ks
  bel : Below w.heap.size w wr
set_option maxRecDepth 100000 in
set_option maxHeartbeats 1000000 in
theorem block_any (A : Option Addr) (n c : Nat) (k : List Int) (w : World) (hb : Nums .u8 w w.heap.size A n k) (hy : ∀ x ∈ k, Byte x) (hn : n ≤ 10000) (hc : n ≤ c) (hc2 : c ≤ 9223372036854775807) :
    Calls Try.prog 13 #[.slice A n c] w (BlockRet w k) := by
  obtain ⟨Z, hZ⟩ : ∃ Z, Z = ((nz 64).map (Value.int .u8)).toArray := ⟨_, rfl⟩
  have hzv := z64
  rw [← hZ] at hzv
  have e1 : (w.alloc (.cells Z 31)).heap.size = w.heap.size + 1 := alloc_size _ _
  obtain ⟨W, hW⟩ : ∃ W, W = (w.alloc (.cells Z 31)).alloc (.cells Z 31) := ⟨_, rfl⟩
  have BW : Below w.heap.size w W := by rw [hW]; exact ((Below.refl _ _).alloc (Nat.le_refl _) _).alloc (by simp) _
  have R0 : Arr .u8 31 W w.heap.size (nz 64) := by rw [hW, hZ]; exact (Arr.new w .u8 31 (nz 64)).alloc _
  have R1 : Arr .u8 31 W (w.heap.size + 1) (nz 64) := by
    rw [hW]
    have := Arr.new (w.alloc (.cells Z 31)) .u8 31 (nz 64)
    rw [e1, ← hZ] at this; exact this
  have SW : w.heap.size + 1 < W.heap.size := R1.lt
  have HL := Lib.hid hb.len
  have HSW := Lib.hid SW
  have HBW := Lib.hid BW
  have HR0 := Lib.hid R0
  have HR1 := Lib.hid R1
  have Z20 := Lib.hid z20
  have HSZ := Lib.hid (show (Try.prog.info? 5).map (·.size) = some 1 by kernel_rfl)
  have HN := Lib.hid hb
  have HY := Lib.hid hy
  have HW := Lib.hid hW
  have U5 := Lib.hid (show (Try.prog.info? 31).map (·.size) = some (((blkL k).map (Value.int .u8)).toArray).size by rw [b64_info]; simp [blk_len])
  have L5 := Lib.hid (show (((nz 64).map (Value.int .u8)).toArray).size = (((blkL k).map (Value.int .u8)).toArray).size by simp [nz, blk_len])
  have HKL := Lib.hid (key_len k)
  clear e1 BW R0 R1 SW hZ hb hy hW
  rcases Nat.lt_or_ge 64 n with hlong | hshort
  · have hkey : keyL k = shaL k := by unfold keyL; rw [if_pos (by rw [HL.out]; exact hlong)]
    obtain ⟨Y, hY⟩ : ∃ Y, Y = ((nz 20).map (Value.int .u8)).toArray := ⟨_, rfl⟩
    have hyv := Z20.out
    rw [← hY] at hyv
    obtain ⟨X, hX⟩ : ∃ X, X = ((shaL k).map (Value.int .u8)).toArray := ⟨_, rfl⟩
    have U1 := Lib.hid (show (Try.prog.info? 25).map (·.size) = some X.size by rw [digest_info, hX]; simp [sha_len])
    have YS := Lib.hid (show Y.size = X.size by rw [hY, hX]; simp [nz, sha_len])
    have HO := Lib.hid (show X.all (·.oneCell') = true by rw [hX]; exact nums_one _)
    have OF := Lib.hid ((sha1 (w := W) (A := A) (n := n) (c := c) (bs := k) ⟨(HN.out.below HBW.out).more HBW.out.size, hn, HY.out, hc, hc2⟩).mono fun e w' h => (show e = .returned (.agg X) ∧ Below W.heap.size W w' from ⟨by rw [hX]; exact h.1, h.2⟩))
    have HX := Lib.hid hX
    have hz : (64 : Int) < (n : Int) := by omega
    have hn63 : n ≤ 9223372036854775807 := by omega
    clear hY hX hlong
    go_enter Try.func13, Try.ntmps13
    go_upto_region 2 with fail
    rw [← HW.out]
    go_upto_region 4 with (first
      | (go_at_call 20; (with_reducible refine OF.out.mono ?_); rintro e w3 ⟨rfl, B3⟩)
      | (refine wpList_store_row rfl 25 (.tmp 4) (.tmp 10) rfl w3.heap.size X rfl rfl _ _ (heap_alloc_new _ _) U1.out YS.out HO.out ?_))
    rw [World.setRow_alloc_new]
    have K0 : KB w (keyL k) (some ⟨w3.heap.size, 0, none⟩) (w3.alloc (.cells X 25)) := by
      have BF : Below w.heap.size w (w3.alloc (.cells X 25)) := (HBW.out.trans (B3.mono HBW.out.size)).alloc (HBW.out.trans (B3.mono HBW.out.size)).size _
      have := B3.size
      have := HSW.out
      rw [hkey]
      refine ⟨(HR0.out.below B3 HR0.out.lt).alloc _, (HR1.out.below B3 HR1.out.lt).alloc _, ?_, BF⟩
      rw [HX.out, sha_len]
      exact (Arr.new w3 .u8 25 (shaL k)).part (sha_len k)
    generalize w3.alloc (.cells X 25) = w4 at *
    have hkl : (keyL k).length = 20 := by rw [hkey, sha_len]
    generalize w3.heap.size = g3 at *
    obtain ⟨A', hA'⟩ : ∃ A', A' = some (⟨g3, 0, none⟩ : Addr) := ⟨_, rfl⟩
    obtain ⟨n', hn'⟩ : ∃ n', n' = 20 := ⟨_, rfl⟩
    have HK0 := Lib.hid K0
    clear hkey B3 hz hyv K0
    go_upto_region 5 with fail
    have HQ := Lib.hid hkl
    have r1 := Lib.hid HK0.out.r1.row
    have HS := Lib.hid HK0.out.src
    have hkb : blkL k = keyL k ++ nz (64 - (keyL k).length) := rfl
    have HKB := Lib.hid hkb
    clear hkl hkb
    go_wp2_with (first
      | ((refine wpList_copy_splice rfl (.tmp 12) (.tmp 13) 22 22 rfl 5 Try.underlying22 HSZ.out _ _ 64 64 20 20 rfl rfl (w.heap.size + 1) 0 ((nz 64).map (Value.int .u8)) 31 r1.out ((keyL k).map (Value.int .u8)) ?_ ?_ ?_ ?_ (w.heap.size + 1) _ (Below.refl _ _) (Nat.le_refl _) ?_)
         · rw [List.length_map, HQ.out]; exact (Nat.min_eq_left (by decide)).symm
         · exact fun hp => ⟨rfl, by obtain ⟨b, o, e, _⟩ := HK0.out.src.at_ (by simpa using hp); exact ⟨_, e, HK0.out.src.news e⟩⟩
         · simp [nz]; exact HKL.out
         · exact fun v hv => by obtain ⟨z, _, rfl⟩ := List.mem_map.1 hv; rfl
         intro w5 G5 B5
         have G1 := Lib.hid (show w5.heap[w.heap.size + 1]? = some (.cells ((blkL k).map (Value.int .u8)).toArray 31 (0, 0)) by rw [HKB.out, ← splice_blk HKL.out]; exact G5)
         have G2 := Lib.hid ((B5.block w.heap.size (Nat.lt_succ_self _)).trans HK0.out.r0.row)
         have BQ := Lib.hid (HK0.out.bel.trans (B5.mono (Nat.le_succ _)))
         clear G5 B5)
      | (refine wpList_load_row rfl 31 (.tmp 3) rfl (w.heap.size + 1) rfl _ _ _ _ G1.out Try.underlying31 rfl U5.out ?_)
      | (refine wpList_store_row rfl 31 (.tmp 2) (.tmp 15) rfl w.heap.size _ rfl rfl _ _ G2.out U5.out L5.out (nums_one _) ?_))
    refine bodyPost_ret (v := .agg ((blkL k).map (Value.int .u8)).toArray) (results_cell_row Try.results13 _ _ w.heap.size _ _ _ _ (by rfl) (setRow_heap _ _ _ _ _ _ G2.out) Try.underlying31 rfl U5.out) rfl ⟨rfl, ?_⟩
    exact BQ.out.trans ⟨rfl, rfl, rfl, by simp, fun z hz => setRow_other _ _ _ _ (by omega)⟩
  · have hkey : keyL k = k := by unfold keyL; rw [if_neg (by rw [HL.out]; omega)]
    have hz : ¬ (64 : Int) < (n : Int) := by omega
    have hn63 : n ≤ 9223372036854775807 := by omega
    go_enter Try.func13, Try.ntmps13
    go_upto_region 2 with fail
    rw [← HW.out]
    have K0 : KB w (keyL k) A W := by
      refine ⟨HR0.out, HR1.out, ?_, HBW.out⟩
      rw [hkey, HL.out]; exact (HN.out.below HBW.out).more HBW.out.size
    have hkl : (keyL k).length = n := by rw [hkey, HL.out]
    have HK0 := Lib.hid K0
    clear hkey HN Z20 K0
    go_upto_region 5 with fail
    have HQ := Lib.hid hkl
    have r1 := Lib.hid HK0.out.r1.row
    have HS := Lib.hid HK0.out.src
    have hkb : blkL k = keyL k ++ nz (64 - (keyL k).length) := rfl
    have HKB := Lib.hid hkb
    clear hkl hkb
    go_wp2_with (first
      | ((refine wpList_copy_splice rfl (.tmp 12) (.tmp 13) 22 22 rfl 5 Try.underlying22 HSZ.out _ _ 64 64 n c rfl rfl (w.heap.size + 1) 0 ((nz 64).map (Value.int .u8)) 31 r1.out ((keyL k).map (Value.int .u8)) ?_ ?_ ?_ ?_ (w.heap.size + 1) _ (Below.refl _ _) (Nat.le_refl _) ?_)
         · rw [List.length_map, HQ.out]; exact (Nat.min_eq_left hshort).symm
         · exact fun hp => ⟨rfl, by obtain ⟨b, o, e, _⟩ := HK0.out.src.at_ (by simpa using hp); exact ⟨_, e, HK0.out.src.news e⟩⟩
         · simp [nz]; exact HKL.out
         · exact fun v hv => by obtain ⟨z, _, rfl⟩ := List.mem_map.1 hv; rfl
         intro w5 G5 B5
         have G1 := Lib.hid (show w5.heap[w.heap.size + 1]? = some (.cells ((blkL k).map (Value.int .u8)).toArray 31 (0, 0)) by rw [HKB.out, ← splice_blk HKL.out]; exact G5)
         have G2 := Lib.hid ((B5.block w.heap.size (Nat.lt_succ_self _)).trans HK0.out.r0.row)
         have BQ := Lib.hid (HK0.out.bel.trans (B5.mono (Nat.le_succ _)))
         clear G5 B5)
      | (refine wpList_load_row rfl 31 (.tmp 3) rfl (w.heap.size + 1) rfl _ _ _ _ G1.out Try.underlying31 rfl U5.out ?_)
      | (refine wpList_store_row rfl 31 (.tmp 2) (.tmp 15) rfl w.heap.size _ rfl rfl _ _ G2.out U5.out L5.out (nums_one _) ?_))
    refine bodyPost_ret (v := .agg ((blkL k).map (Value.int .u8)).toArray) (results_cell_row Try.results13 _ _ w.heap.size _ _ _ _ (by rfl) (setRow_heap _ _ _ _ _ _ G2.out) Try.underlying31 rfl U5.out) rfl ⟨rfl, ?_⟩
    exact BQ.out.trans ⟨rfl, rfl, rfl, by simp, fun z hz => setRow_other _ _ _ _ (by omega)⟩
end Go.Proofs.Ytbpolandhjcggaa.hmC
