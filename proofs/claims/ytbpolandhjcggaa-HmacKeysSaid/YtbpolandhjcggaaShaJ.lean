/-
  The code's sha: Digest.
-/
import Derived.Test.YtbpolandhjcggaaShaI
namespace Go.Proofs.Ytbpolandhjcggaa.shaC
open Go.ChangeShapes Go.WideShapes Go.ChangeAt Go.RowKit
open Go.Proofs.Ytbpolandhjcggaa.memC Go.Proofs.Ytbpolandhjcggaa.genC Go.Proofs.Ytbpolandhjcggaa.shaM Go.Proofs.Ytbpolandhjcggaa.shaN Go.Proofs.Ytbpolandhjcggaa.butC
set_option linter.unusedVariables false
/-- the block behind i bytes of the length -/
def lenR (xs : List Int) (i : Nat) : List Int := tailR (fullL xs) ++ (zs (8 - i) ++ (lenB ((xs.length : Int) * 8)).drop (8 - i))
theorem lenB_len (x : Int) : (lenB x).length = 8 := rfl
theorem lenR_zero (xs : List Int) : lenR xs 0 = tailR (fullL xs) ++ zs 8 := by
  unfold lenR; rw [List.drop_eq_nil_of_le (by rw [lenB_len]; decide), List.append_nil]
theorem lenR_full (xs : List Int) : lenR xs 8 = tailR (fullL xs) ++ lenB ((xs.length : Int) * 8) := by
  unfold lenR; simp [zs]
theorem lenR_len (xs : List Int) (i : Nat) (hi : i ≤ 8) : (lenR xs i).length = 64 := by
  unfold lenR zs
  rw [List.length_append, List.length_append, tail_len, full_len, List.length_replicate, List.length_drop, lenB_len]; omega
theorem lenR_set (xs : List Int) (i : Nat) (hi : i < 8) : (lenR xs i).set (63 - i) ((xs.length : Int) * 8 / 2 ^ (8 * i) % 256) = lenR xs (i + 1) := by
  unfold lenR
  have h56 : (tailR (fullL xs)).length = 56 := by rw [tail_len, full_len]
  rw [List.set_append_right _ _ (by rw [h56]; omega), h56]
  congr 1
  generalize (xs.length : Int) * 8 = x
  rcases (show i = 0 ∨ i = 1 ∨ i = 2 ∨ i = 3 ∨ i = 4 ∨ i = 5 ∨ i = 6 ∨ i = 7 by omega) with rfl | rfl | rfl | rfl | rfl | rfl | rfl | rfl <;> simp [zs, lenB]
theorem lenR_byte {xs : List Int} (h : ∀ x ∈ xs, Byte x) : ∀ x ∈ lenR xs 8, Byte x := by
  rw [lenR_full]
  refine app_byte (tail_byte (app_byte h ?_)) ?_
  · intro x hx
    rcases List.mem_cons.1 hx with rfl | hx
    · unfold Byte; omega
    · exact zs_byte _ x hx
  · intro y hy
    have := pad_byte (bs := xs) h y (by unfold padL; exact List.mem_append_right _ hy)
    exact this
/-- what lies in memory while a digest is reckoned -/
structure DR (w : World) (g r : List Int) (n : Nat) (wr : World) : Prop where
  sum : SumAt wr w.heap.size g r n
  out : Arr .u8 25 wr (w.heap.size + 1) (List.replicate 20 0)
  bel : Below w.heap.size w wr
theorem DR.but {w wr w' : World} {g r g' r' : List Int} {n n' : Nat} (D : DR w g r n wr) (S : SumAt w' w.heap.size g' r' n') (B : But w.heap.size wr w') : DR w g' r' n' w' :=
  ⟨S, B.arr D.out (by omega), D.bel.trans (B.to_below (Nat.le_refl _) D.bel.size)⟩
theorem DR.below {w wr w' : World} {g r : List Int} {n : Nat} (D : DR w g r n wr) (B : Below wr.heap.size wr w') : DR w g r n w' :=
  ⟨D.sum.below B D.sum.lt, D.out.below B D.out.lt, D.bel.trans (B.mono D.bel.size)⟩
theorem DR.r {w wr : World} {g r : List Int} {n : Nat} (D : DR w g r n wr) {j : Nat} (hj : j < 64) (x : Int) : DR w g (r.set j x) n (wr.setCell ⟨w.heap.size, 5 + j, none⟩ (.int .u8 x)) :=
  D.but (D.sum.setr hj x) ((But.refl _).setCell _ _)
/-- what lies in memory while a digest is written -/
structure OR (w : World) (O : Nat) (o : List Int) (wr : World) : Prop where
  out : Arr .u8 25 wr (w.heap.size + 1) (List.replicate 20 0)
  arr : Arr .u8 25 wr O o
  bel : Below w.heap.size w wr
  lt : w.heap.size + 1 < O
theorem OR.below {w wr w' : World} {O : Nat} {o : List Int} (D : OR w O o wr) (B : Below wr.heap.size wr w') : OR w O o w' :=
  ⟨D.out.below B D.out.lt, D.arr.below B D.arr.lt, D.bel.trans (B.mono D.bel.size), D.lt⟩
theorem OR.s {w wr : World} {O : Nat} {o : List Int} (D : OR w O o wr) (j : Nat) (x : Int) : OR w O (o.set j x) (wr.setCell ⟨O, j, none⟩ (.int .u8 x)) := by
  have := D.lt
  exact ⟨D.out.other (by show O ≠ w.heap.size + 1; omega) _, D.arr.stored j x, D.bel.setCell (p := ⟨O, j, none⟩) (by show w.heap.size ≤ O; omega) _, D.lt⟩
set_option maxRecDepth 100000 in
set_option maxHeartbeats 1000000 in
theorem digest_any (xs : List Int) (w : World) (hx : ∀ x ∈ xs, Byte x) (hn : xs.length ≤ 100000000) :
    Calls Try.prog 17 #[.agg (sumL xs).toArray] w (ShaRet w xs) := by
  obtain ⟨S, hS⟩ : ∃ S, S = (sumL xs).toArray := ⟨_, rfl⟩
  rw [← hS]
  have hs70 : S.size = 70 := by rw [hS]; simp [sumL_len]
  have e1 : (w.alloc (.cells S 41)).heap.size = w.heap.size + 1 := alloc_size _ _
  have D1 : DR w (gOf (hashH xs)) (restL xs) xs.length ((w.alloc (.cells S 41)).alloc (.cells ((List.replicate 20 (0 : Int)).map (Value.int .u8)).toArray 25)) := by
    refine ⟨?_, ?_, ((Below.refl _ _).alloc (Nat.le_refl _) _).alloc (by simp) _⟩
    · rw [hS]; exact (SumAt.new w (gOf_len (hashH_ok xs).1) (rest_len xs)).alloc _
    · have := Arr.new (w.alloc (.cells S 41)) .u8 25 (List.replicate 20 0)
      rw [e1] at this; exact this
  have z1 : ((w.alloc (.cells S 41)).alloc (.cells ((List.replicate 20 (0 : Int)).map (Value.int .u8)).toArray 25)).heap.size = w.heap.size + 1 + 1 := by rw [alloc_size, e1]
  have HD1 := Lib.hid D1
  have HZ1 := Lib.hid z1
  have HX := Lib.hid hx
  have HN := Lib.hid hn
  obtain ⟨L, hL⟩ : ∃ L, L = xs.length := ⟨_, rfl⟩
  have HL := Lib.hid hL
  have hL2 : L ≤ 100000000 := by omega
  clear e1 D1 z1 hS hx hn hL
  go_enter Try.func17, Try.ntmps17
  go_upto_region 1 with fail
  change Code.wp _ _ _ _ ((w.alloc (.cells S 41)).alloc (.cells ((List.replicate 20 (0 : Int)).map (Value.int .u8)).toArray 25))
  generalize ((w.alloc (.cells S 41)).alloc (.cells ((List.replicate 20 (0 : Int)).map (Value.int .u8)).toArray 25)) = w1 at *
  clear hs70
  have cn := HD1.out.sum.cn
  rw [← HL.out] at cn
  go_upto_region 2 with fail
  clear cn
  have NL : Nums .u8 (w1.alloc (.cells #[.int .u8 128] 5)) (w1.alloc (.cells #[.int .u8 128] 5)).heap.size (some ⟨w1.heap.size, 0, none⟩) 1 [128] := by
    have := (Arr.new w1 .u8 5 [128]).part (n := 1) rfl
    exact this
  have HT := Lib.hid (take_any w.heap.size xs [128] (some ⟨w1.heap.size, 0, none⟩) 1 1 (w1.alloc (.cells #[.int .u8 128] 5)) (HD1.out.sum.alloc _) NL (fun _ a ha => by obtain rfl := Option.some.inj ha; show w1.heap.size ≠ w.heap.size; rw [HZ1.out]; omega) (Nat.le_refl _) (by decide) HX.out (by unfold Byte; simp) (by have := HN.out; omega))
  clear NL
  go_upto_region 3 with (first
    | (go_at_call 22; (with_reducible refine HT.out.mono ?_); rintro e w2 ⟨rfl, S2, B2⟩))
  have D2 : DR w (gOf (hashH (xs ++ [128]))) (restL (xs ++ [128])) (L + 1) w2 := by
    have := (HD1.out.below (alloc_below w1 (.cells #[.int .u8 128] 5))).but S2 B2
    rw [List.length_append, ← HL.out] at this; exact this
  clear S2 B2
  have HD2 := Lib.hid D2
  have cn := D2.sum.cn
  obtain ⟨M, hM⟩ : ∃ M, M = L + 1 := ⟨_, rfl⟩
  rw [← hM] at cn
  have HM := Lib.hid hM
  clear D2 hM
  obtain ⟨X, hX⟩ : ∃ X, X = 8 * (L : Int) := ⟨_, rfl⟩
  have X0 : 0 ≤ X := by omega
  have X1 : X ≤ 800000000 := by omega
  have HXX := Lib.hid hX
  rw [← hX]
  clear hX
  have hML : (xs ++ [128]).length % 64 = M % 64 := by rw [List.length_append, HM.out, HL.out]; rfl
  have hM1 : (xs.length + 1) % 64 = M % 64 := by rw [HM.out, HL.out]
  have yx : ∀ y ∈ xs ++ [128], Byte y := app_byte HX.out (by unfold Byte; simp)
  have MX := Lib.hid (mix_any w.heap.size M _ _ w2 (by rw [HM.out]; exact HD2.out.sum) (rest_byte yx))
  have HH := hashH_ok (xs ++ [128])
  have HML := Lib.hid hML
  have HM1 := Lib.hid hM1
  clear hML hM1 yx HT
  rcases Nat.lt_or_ge 56 (M % 64) with hc | hc
  all_goals
    first
    | (have hz : (56 : Int) < (M : Int) % 64 := by omega
       have FF := full_far (xs := xs) (by rw [HM1.out]; exact hc)
       go_upto_region 5 with (first
         | (go_at_call 23; (with_reducible refine MX.out.mono ?_); rintro e w3 ⟨rfl, S3, B3⟩))
       have D3 : DR w (gOf (hashH (fullL xs))) (lenR xs 0) M w3 := by
         rw [mixG_hash HH.1 HH.2, ← FF.1] at S3
         rw [lenR_zero, FF.2]
         exact HD2.out.but S3 B3
       have HD3 := Lib.hid D3
       clear D3 S3 B3 hz FF cn)
    | (have hz : ¬ ((56 : Int) < (M : Int) % 64) := by omega
       have FF := full_near (xs := xs) (by rw [HM1.out]; exact hc)
       go_upto_region 5 with fail
       have D3 : DR w (gOf (hashH (fullL xs))) (lenR xs 0) M w2 := by
         rw [lenR_zero, FF.1, FF.2, HM.out]
         exact HD2.out
       have HD3 := Lib.hid D3
       clear D3 hz FF cn)
    clear MX HH hc
    go_wp2_with fail
    go_loopw [19] (fun i wr => ∃ k : Nat, k ≤ 8 ∧ i = .int .i64 k ∧ DR w (gOf (hashH (fullL xs))) (lenR xs k) M wr) (fun i _ => 8 - (intOf i).toNat)
    case atStart => exact ⟨0, by omega, rfl, HD3.out⟩
    case round =>
      obtain ⟨k, hk, rfl, DD⟩ := hrel
      have HDD := Lib.hid DD
      by_cases hlt : k < 8
      · obtain ⟨u, hu⟩ : ∃ u, u = 63 - k := ⟨_, rfl⟩
        obtain ⟨s, hs⟩ : ∃ s, s = 8 * k := ⟨_, rfl⟩
        have huz : (63 : Int) - (k : Int) = (u : Int) := by omega
        have hsz : (8 : Int) * (k : Int) = (s : Int) := by omega
        have hu64 : u < 64 := by omega
        have hu64z : (u : Int) < 64 := by omega
        have hs56 : s ≤ 56 := by omega
        have hs56z : (s : Int) ≤ 56 := by omega
        have hkz : (k : Int) < 8 := by omega
        have cu := DD.sum.cr (j := u) hu64
        have fu := DD.sum.frozen (5 + u)
        have hst := lenR_set xs k hlt
        have hXL : (xs.length : Int) * 8 = X := by rw [HXX.out, HL.out]; omega
        rw [hXL, ← hu, ← hs] at hst
        have HS := Lib.hid hst
        clear hst hXL hu hs DD
        go_wp2_with fail
        go_roundw
        case rel =>
          refine ⟨k + 1, by omega, by go_num, ?_⟩
          rw [← HS.out]
          exact HDD.out.r hu64 _
        case measure => simp [intOf]; omega
      · have e : k = 8 := by omega
        subst e
        have MX2 := Lib.hid (mix_any w.heap.size M _ _ wr DD.sum (lenR_byte HX.out))
        clear hlt hk DD
        go_upto_region 11 with (first
          | (go_at_call 23; (with_reducible refine MX2.out.mono ?_); rintro e w5 ⟨rfl, S5, B5⟩))
        have D5 : DR w (gOf (hashH (padL xs))) (zs 64) M w5 := by
          have h0 := hashH_ok (fullL xs)
          rw [mixG_hash h0.1 h0.2, lenR_full, ← pad_hash] at S5
          exact HDD.out.but S5 B5
        clear S5 B5 HDD
        go_upto_region 12 with fail
        have O6 := OR.mk (w := w) (O := w5.heap.size) (o := outL (hashH (padL xs)) 0) (wr := w5.alloc (.cells ((List.replicate 20 (0 : Int)).map (Value.int .u8)).toArray 25)) (D5.out.alloc _) (Arr.new w5 .u8 25 (List.replicate 20 0)) (D5.bel.alloc D5.bel.size _) D5.out.lt
        have S6 := D5.sum.alloc (.cells ((List.replicate 20 (0 : Int)).map (Value.int .u8)).toArray 25)
        change Code.wp _ _ _ _ (w5.alloc (.cells ((List.replicate 20 (0 : Int)).map (Value.int .u8)).toArray 25))
        generalize w5.alloc (.cells ((List.replicate 20 (0 : Int)).map (Value.int .u8)).toArray 25) = w6 at *
        generalize w5.heap.size = O at *
        obtain ⟨d0, d1, d2, d3, d4, hd⟩ := list5 (hashH_ok (padL xs)).1
        have hdw := (hashH_ok (padL xs)).2
        have F6 := Lib.hid ((five_any _ _ _ _ _ S6).mono fun e w' h => (show e = .returned (.agg #[.int .u32 d0, .int .u32 d1, .int .u32 d2, .int .u32 d3, .int .u32 d4]) ∧ Below w6.heap.size w6 w' from ⟨by rw [h.1, gOf_back (hashH_ok _).1 (hashH_ok _).2, hd]; rfl, h.2⟩))
        have HO6 := Lib.hid O6
        have HDW := Lib.hid hdw
        have HDD := Lib.hid hd
        clear D5 S6 O6 hd hdw
        go_upto_region 13 with (first
          | (go_at_call 24; (with_reducible refine F6.out.mono ?_); rintro e w7 ⟨rfl, B7⟩))
        have O7 := Lib.hid (HO6.out.below B7)
        clear B7
        go_wp2_with fail
        go_loopw [34] (fun i wx => ∃ a : Nat, a ≤ 5 ∧ i = .int .i64 a ∧ OR w O (outL (hashH (padL xs)) (4 * a)) wx) (fun i _ => 5 - (intOf i).toNat)
        case atStart => exact ⟨0, by omega, rfl, O7.out⟩
        case round =>
          obtain ⟨a, ha, rfl, QQ⟩ := hrel
          have HQ := Lib.hid QQ
          clear QQ
          by_cases hlt : a < 5
          · have hv : (#[.int .u32 d0, .int .u32 d1, .int .u32 d2, .int .u32 d3, .int .u32 d4] : Array Value)[a]? = some (.int .u32 ((hashH (padL xs)).getD a 0)) := by
              rw [HDD.out]
              rcases (show a = 0 ∨ a = 1 ∨ a = 2 ∨ a = 3 ∨ a = 4 by omega) with rfl | rfl | rfl | rfl | rfl <;> rfl
            obtain ⟨i1, hi1, hs1⟩ := u_info
            have ix : (Instr.index 38 (.agg #[.int .u32 d0, .int .u32 d1, .int .u32 d2, .int .u32 d3, .int .u32 d4]) (.int .i64 (a : Int))).run Try.prog wr = .ok (.int .u32 ((hashH (padL xs)).getD a 0)) wr :=
              Go.Proofs.Ytbpolandhjcggaa.idxC.run_idx wr _ _ 5 .u32 i1 _ a _ Try.underlying38 rfl hi1 hs1 hlt hv
            have haz : (a : Int) < 5 := by omega
            obtain ⟨y, hyy⟩ : ∃ y, y = (hashH (padL xs)).getD a 0 := ⟨_, rfl⟩
            have yw : W32 y := by
              rw [hyy, List.getD_eq_getElem?_getD, List.getElem?_eq_getElem (by rw [(hashH_ok (padL xs)).1]; exact hlt)]
              exact HDW.out _ (List.getElem_mem _)
            rw [← hyy] at ix
            obtain ⟨y0, y1⟩ := yw
            have HYY := Lib.hid hyy
            obtain ⟨p, hp⟩ : ∃ p, p = 4 * a := ⟨_, rfl⟩
            have hpz : (4 : Int) * (a : Int) = (p : Int) := by omega
            have HPP := Lib.hid hp
            rw [← hp] at HQ
            clear hv hi1 hs1 hyy hp
            go_wp2_with fail
            go_loopw [38] (fun i wx => ∃ b : Nat, b ≤ 4 ∧ i = .int .i64 b ∧ OR w O (outL (hashH (padL xs)) (p + b)) wx) (fun i _ => 4 - (intOf i).toNat)
            case atStart => exact ⟨0, by omega, rfl, HQ.out⟩
            case round =>
              obtain ⟨b, hb, rfl, QQ⟩ := hrel
              by_cases hlb : b < 4
              · obtain ⟨q, hq⟩ : ∃ q, q = p + b := ⟨_, rfl⟩
                obtain ⟨s, hs⟩ : ∃ s, s = 24 - 8 * b := ⟨_, rfl⟩
                have hqz : (p : Int) + (b : Int) = (q : Int) := by omega
                have hsz : (24 : Int) - 8 * (b : Int) = (s : Int) := by omega
                have hq20 : q < 20 := by have := HPP.out; omega
                have hq20z : (q : Int) < 20 := by omega
                have hbz : (b : Int) < 4 := by omega
                have hpz2 : (p : Int) ≤ 16 := by omega
                have hs24 : (s : Int) ≤ 24 := by omega
                have HYv : outB (hashH (padL xs)) q = y / 2 ^ s % 256 := by
                  have e1 : q / 4 = a := by have := HPP.out; omega
                  have e2 : q % 4 = b := by have := HPP.out; omega
                  unfold outB; rw [e1, e2, HYY.out, hs]
                have hst := out_set (hashH (padL xs)) q hq20
                rw [HYv] at hst
                rw [← hq] at QQ
                have co := QQ.arr.cell (j := q) (by rw [out_len _ q (by omega)]; exact hq20)
                have fo := QQ.arr.frozen q
                have HQ2 := Lib.hid QQ
                have HS := Lib.hid hst
                have HQQ := Lib.hid hq
                clear HYv hst QQ hq hs
                go_wp2_with fail
                go_roundw
                case rel =>
                  refine ⟨b + 1, by omega, by go_num, ?_⟩
                  rw [← Nat.add_assoc, ← HQQ.out, ← HS.out]
                  exact HQ2.out.s q _
                case measure => simp [intOf]; omega
              · have e : b = 4 := by omega
                subst e
                have HQ2 := Lib.hid QQ
                clear QQ hlb hb
                go_wp2_with fail
                go_roundw
                case rel =>
                  refine ⟨a + 1, by omega, by go_num, ?_⟩
                  have e4 : 4 * (a + 1) = p + 4 := by have := HPP.out; omega
                  rw [e4]; exact HQ2.out
                case measure => simp [intOf]; omega
          · have e : a = 5 := by omega
            subst e
            have hF : outL (hashH (padL xs)) (4 * 5) = shaL xs := by unfold outL; rw [sha_hash]; simp
            have QQ := HQ.out
            rw [hF] at QQ
            have hlS : (shaL xs).length = 20 := by unfold shaL; simp
            have G1 := Lib.hid QQ.arr.row
            have G2 := Lib.hid QQ.out.row
            have HF := Lib.hid hlS
            have BQ := Lib.hid QQ.bel
            have U1 := Lib.hid (show (Try.prog.info? 25).map (·.size) = some (((shaL xs).map (Value.int .u8)).toArray).size by rw [digest_info]; simp [hlS])
            clear hF hlt ha hlS QQ HQ
            go_wp2_with (first
              | (refine wpList_load_row rfl 25 (.tmp 5) rfl O rfl _ _ _ _ G1.out Try.underlying25 rfl U1.out ?_)
              | (refine wpList_store_row rfl 25 (.tmp 2) (.tmp 54) rfl (w.heap.size + 1) _ rfl rfl _ _ G2.out U1.out (by simp [HF.out]) (nums_one _) ?_))
            refine bodyPost_ret (v := .agg ((shaL xs).map (Value.int .u8)).toArray) (results_cell_row Try.results17 _ _ (w.heap.size + 1) _ _ _ _ (by rfl) (setRow_heap _ _ _ _ _ _ G2.out) Try.underlying25 rfl U1.out) rfl ⟨rfl, ?_⟩
            exact BQ.out.trans ⟨rfl, rfl, rfl, by simp, fun z hz => setRow_other _ _ _ _ (by omega)⟩
end Go.Proofs.Ytbpolandhjcggaa.shaC
