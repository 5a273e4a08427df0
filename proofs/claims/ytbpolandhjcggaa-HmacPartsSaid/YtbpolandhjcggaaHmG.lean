/-
  The code's hmac: Of.
-/
import Derived.Test.YtbpolandhjcggaaHmF
namespace Go.Proofs.Ytbpolandhjcggaa.hmC
open Go.ChangeShapes Go.WideShapes Go.ChangeAt Go.RowKit
open Go.Proofs.Ytbpolandhjcggaa.memC Go.Proofs.Ytbpolandhjcggaa.genC Go.Proofs.Ytbpolandhjcggaa.shaM Go.Proofs.Ytbpolandhjcggaa.shaC Go.Proofs.Ytbpolandhjcggaa.shaN Go.Proofs.Ytbpolandhjcggaa.butC Go.Proofs.Ytbpolandhjcggaa.hmM Go.Proofs.Ytbpolandhjcggaa.freeC Go.Proofs.Ytbpolandhjcggaa.partsC
set_option linter.unusedVariables false
/-- while parts are put behind the inner block -/
structure QR (w : World) (g k : Nat) (bk xs : List Int) (wr : World) : Prop where
  sum : SumV wr k xs
  blk : Arr .u8 31 wr g bk
  out : Arr .u8 25 wr w.heap.size (nz 20)
  bel : Below w.heap.size w wr
  lt : w.heap.size < g
  lt2 : g < k
theorem QR.put {w wr w' : World} {g k : Nat} {bk xs ys : List Int} (D : QR w g k bk xs wr) (B : Below wr.heap.size wr w') : QR w g k bk ys (w'.setRow k (sumL ys).toArray) := by
  have h1 := D.lt
  have h2 := D.lt2
  have h3 := D.sum.lt
  have hk : w'.heap[k]? = some (.cells (sumL xs).toArray 41 (0, 0)) := (B.block k h3).trans D.sum.row
  refine ⟨⟨setRow_heap _ _ _ _ _ _ hk, gOf_len (hashH_ok ys).1, rest_len ys⟩, ⟨?_⟩, ⟨?_⟩, ?_, h1, h2⟩
  · rw [setRow_other _ _ _ _ (by omega), B.block g (by omega)]; exact D.blk.row
  · rw [setRow_other _ _ _ _ (by omega), B.block _ (by omega)]; exact D.out.row
  · exact (D.bel.trans (B.mono D.bel.size)).trans ⟨rfl, rfl, rfl, by simp, fun z hz => setRow_other _ _ _ _ (by omega)⟩
/-- what holds while the outer digest is reckoned -/
structure OJ (w0 : World) (d g : Nat) (bk dg : List Int) (SA SB D : Array Value) (m : Nat → Bool) (us : Nat → Value) (w : World) : Prop where
  bel : Below w0.heap.size w0 w
  res : w.heap[w0.heap.size]? = some (.cells (if m 5 then D else ((nz 20).map (Value.int .u8)).toArray) 25 (0, 0))
  dig : Arr .u8 25 w d dg
  blk : Arr .u8 31 w g bk
  v0 : m 0 = true → us 0 = .agg (bk.map (Value.int .u8)).toArray
  v1 : m 1 = true → us 1 = .agg SA
  v2 : m 2 = true → us 2 = .slice (some ⟨d, 0, none⟩) 20 20
  v3 : m 3 = true → us 3 = .agg SB
  v4 : m 4 = true → us 4 = .agg D
  rd : w0.heap.size < d
  rg : w0.heap.size < g
section
variable {w0 w w' : World} {d g : Nat} {bk dg : List Int} {SA SB D : Array Value} {m : Nat → Bool} {us : Nat → Value}
theorem OJ.ext (h : OJ w0 d g bk dg SA SB D m us w) (hb : Below w.heap.size w w') : OJ w0 d g bk dg SA SB D m us w' := by
  have h1 := h.dig.lt
  have h2 := h.rd
  exact ⟨h.bel.trans (hb.mono h.bel.size), (hb.block _ (by omega)).trans h.res, h.dig.below hb h.dig.lt, h.blk.below hb h.blk.lt, h.v0, h.v1, h.v2, h.v3, h.v4, h.rd, h.rg⟩
theorem OJ.s0 (h : OJ w0 d g bk dg SA SB D m us w) : OJ w0 d g bk dg SA SB D (upd m 0 true) (upd us 0 (.agg (bk.map (Value.int .u8)).toArray)) w :=
  ⟨h.bel, h.res, h.dig, h.blk, fun _ => rfl, h.v1, h.v2, h.v3, h.v4, h.rd, h.rg⟩
theorem OJ.s1 (h : OJ w0 d g bk dg SA SB D m us w) (hb : Below w.heap.size w w') : OJ w0 d g bk dg SA SB D (upd m 1 true) (upd us 1 (.agg SA)) w' := by
  have h' := h.ext hb
  exact ⟨h'.bel, h'.res, h'.dig, h'.blk, h'.v0, fun _ => rfl, h'.v2, h'.v3, h'.v4, h'.rd, h'.rg⟩
theorem OJ.s2 (h : OJ w0 d g bk dg SA SB D m us w) : OJ w0 d g bk dg SA SB D (upd m 2 true) (upd us 2 (.slice (some ⟨d, 0, none⟩) 20 20)) w :=
  ⟨h.bel, h.res, h.dig, h.blk, h.v0, h.v1, fun _ => rfl, h.v3, h.v4, h.rd, h.rg⟩
theorem OJ.s3 (h : OJ w0 d g bk dg SA SB D m us w) (hb : Below w.heap.size w w') : OJ w0 d g bk dg SA SB D (upd m 3 true) (upd us 3 (.agg SB)) w' := by
  have h' := h.ext hb
  exact ⟨h'.bel, h'.res, h'.dig, h'.blk, h'.v0, h'.v1, h'.v2, fun _ => rfl, h'.v4, h'.rd, h'.rg⟩
theorem OJ.s4 (h : OJ w0 d g bk dg SA SB D m us w) (hb : Below w.heap.size w w') : OJ w0 d g bk dg SA SB D (upd m 4 true) (upd us 4 (.agg D)) w' := by
  have h' := h.ext hb
  exact ⟨h'.bel, h'.res, h'.dig, h'.blk, h'.v0, h'.v1, h'.v2, h'.v3, fun _ => rfl, h'.rd, h'.rg⟩
theorem OJ.r5 (h : OJ w0 d g bk dg SA SB D m us w) (hm : m 5 = false) : w.heap[w0.heap.size]? = some (.cells ((nz 20).map (Value.int .u8)).toArray 25 (0, 0)) := by
  have := h.res
  rw [hm] at this; exact this
theorem OJ.s5 (h : OJ w0 d g bk dg SA SB D m us w) (hm : m 5 = false) : OJ w0 d g bk dg SA SB D (upd m 5 true) (upd us 5 undef) (w.setRow w0.heap.size D) := by
  have h1 := h.rd
  have h2 := h.rg
  exact ⟨h.bel.trans ⟨rfl, rfl, rfl, by simp, fun z hz => setRow_other _ _ _ _ (by omega)⟩, setRow_heap _ _ _ _ _ _ (h.r5 hm), ⟨by rw [setRow_other _ _ _ _ (by omega)]; exact h.dig.row⟩, ⟨by rw [setRow_other _ _ _ _ (by omega)]; exact h.blk.row⟩,
    h.v0, h.v1, h.v2, h.v3, h.v4, h1, h2⟩
end
def tabO : List (Option Nat) := [none, none, none, none, none, none, none, none, none, none, none, none, none, none, none, none, none, none, none, none, none, none, none, none, none, none, some 0, some 1, some 2, some 3, some 4]
set_option maxRecDepth 100000 in
set_option maxHeartbeats 1000000 in
theorem cof_any (A : Option Addr) (n c : Nat) (k : List Int) (P : Option Addr) (m c2 : Nat) (ps : List Part) (w : World) (hb : Nums .u8 w w.heap.size A n k) (hy : ∀ x ∈ k, Byte x) (hn : n ≤ 10000) (hc : n ≤ c) (hc2 : c ≤ 9223372036854775807)
    (hp : Parts w w.heap.size P ps) (hl : ps.length = m) (hm : m ≤ 100) :
    Calls Try.prog 9 #[.slice A n c, .slice P m c2] w (MacRet w k (catL ps)) := by
  obtain ⟨Z, hZ⟩ : ∃ Z, Z = ((nz 20).map (Value.int .u8)).toArray := ⟨_, rfl⟩
  have hzv := z20
  rw [← hZ] at hzv
  obtain ⟨Y, hY⟩ : ∃ Y, Y = ((nz 64).map (Value.int .u8)).toArray := ⟨_, rfl⟩
  have hyv := z64
  rw [← hY] at hyv
  obtain ⟨V, hV⟩ : ∃ V, V = zeroC.toArray := ⟨_, rfl⟩
  have hvv := zero70
  rw [← hV] at hvv
  obtain ⟨X, hX⟩ : ∃ X, X = ((blkL k).map (Value.int .u8)).toArray := ⟨_, rfl⟩
  obtain ⟨S1, hS1⟩ : ∃ S, S = (sumL (turnL k 54)).toArray := ⟨_, rfl⟩
  have HPT := Lib.hid hp
  have HL := Lib.hid hl
  have HY := Lib.hid hy
  have hms : nsum ps ≤ 10000 * ps.length := by
    have : ∀ (l : List Part), (∀ p ∈ l, PartAt w w.heap.size p) → nsum l ≤ 10000 * l.length := by
      intro l
      induction l with
      | nil => intro _; exact Nat.le_refl _
      | cons p r ih => intro h; have h1 := (h p (by simp)).few; have h2 := ih fun q hq => h q (by simp [hq]); simp only [nsum, List.length_cons]; omega
    exact this ps hp.all
  have HMS := Lib.hid hms
  have UX := Lib.hid (show (Try.prog.info? 31).map (·.size) = some X.size by rw [b64_info, hX]; simp [blk_len])
  have YX := Lib.hid (show Y.size = X.size by rw [hY, hX]; simp [nz, blk_len])
  have OX := Lib.hid (show X.all (·.oneCell') = true by rw [hX]; exact nums_one _)
  have US := Lib.hid (show (Try.prog.info? 41).map (·.size) = some S1.size by rw [sum_info, hS1]; simp [sumL_len])
  have VS := Lib.hid (show V.size = S1.size by rw [hV, hS1]; simp [sumL_len]; rfl)
  have OS := Lib.hid (show S1.all (·.oneCell') = true by rw [hS1]; exact sumC_one _ _ _)
  have SW := alloc_size w (.cells Z 25)
  have BW := alloc_below w (.cells Z 25)
  have RW : Arr .u8 25 (w.alloc (.cells Z 25)) w.heap.size (nz 20) := by rw [hZ]; exact Arr.new w .u8 25 (nz 20)
  have BL := Lib.hid (fun (w' : World) (B : Below w.heap.size w w') => (block_any A n c k w' ((hb.below B).more B.size) hy hn hc hc2).mono fun e w'' h => (show e = .returned (.agg X) ∧ Below w'.heap.size w' w'' from ⟨by rw [hX]; exact h.1, h.2⟩))
  have BG := Lib.hid (fun (w' : World) => (show Calls Try.prog 15 #[.agg X, .int .u8 54] w' fun e w'' => e = .returned (.agg S1) ∧ Below w'.heap.size w' w'' by
    rw [hX, hS1]; exact (begun_any (blkL k) 54 w' (blk_len k) (blk_byte hy) (by decide) (by decide)).mono fun e w'' h => h))
  have HZ := Lib.hid hZ
  have HX := Lib.hid hX
  have HS1 := Lib.hid hS1
  have HSW := Lib.hid SW
  have HBW := Lib.hid BW
  have HRW := Lib.hid RW
  clear hZ hY hV hX hS1 hb hy hp hl hms SW BW RW
  go_enter Try.func9, Try.ntmps9
  go_upto_region 1 with fail
  generalize w.alloc (.cells Z 25) = W at *
  go_upto_region 2 with (first
    | (go_at_call 13; (with_reducible refine (BL.out _ HBW.out).mono ?_); rintro e w1 ⟨rfl, B1⟩)
    | (refine wpList_store_row rfl 31 (.tmp 5) (.tmp 11) rfl w1.heap.size X rfl rfl _ _ (heap_alloc_new _ _) UX.out YX.out OX.out ?_))
  rw [World.setRow_alloc_new]
  have A2 : Arr .u8 31 (w1.alloc (.cells X 31)) w1.heap.size (blkL k) := by rw [HX.out]; exact Arr.new w1 .u8 31 (blkL k)
  have R2 := (HRW.out.below B1 HRW.out.lt).alloc (.cells X 31)
  have b2 : Below w.heap.size w (w1.alloc (.cells X 31)) := (HBW.out.trans (B1.mono HBW.out.size)).alloc (HBW.out.trans (B1.mono HBW.out.size)).size _
  have lt1 : w.heap.size < w1.heap.size := by have := B1.size; have := HSW.out; omega
  generalize w1.alloc (.cells X 31) = w2 at *
  generalize w1.heap.size = g at *
  have HA2 := Lib.hid A2
  have HR2 := Lib.hid R2
  have Hb2 := Lib.hid b2
  have G2 := Lib.hid (show w2.heap[g]? = some (.cells X 31 (0, 0)) by rw [HX.out]; exact A2.row)
  clear A2 R2 b2 B1 hyv
  go_upto_region 3 with (first
    | (refine wpList_load_row rfl 31 (.tmp 5) rfl g rfl _ _ _ _ G2.out Try.underlying31 rfl UX.out ?_)
    | (go_at_call 15; (with_reducible refine (BG.out _).mono ?_); rintro e w3 ⟨rfl, B3⟩)
    | (refine wpList_store_row rfl 41 (.tmp 6) (.tmp 13) rfl w3.heap.size S1 rfl rfl _ _ (heap_alloc_new _ _) US.out VS.out OS.out ?_))
  rw [World.setRow_alloc_new]
  have P1 : QR w g w3.heap.size (blkL k) (turnL k 54 ++ catL (ps.take 0)) (w3.alloc (.cells S1 41)) := by
    have e : turnL k 54 ++ catL (ps.take 0) = turnL k 54 := by simp [catL]
    rw [e]
    refine ⟨?_, (HA2.out.below B3 HA2.out.lt).alloc _, (HR2.out.below B3 HR2.out.lt).alloc _, (Hb2.out.trans (B3.mono Hb2.out.size)).alloc (Hb2.out.trans (B3.mono Hb2.out.size)).size _, lt1, by have := HA2.out.lt; have := B3.size; omega⟩
    rw [HS1.out]
    exact SumAt.new w3 (gOf_len (hashH_ok (turnL k 54)).1) (rest_len (turnL k 54))
  generalize w3.alloc (.cells S1 41) = w4 at *
  generalize w3.heap.size = s at *
  have HP1 := Lib.hid P1
  clear P1 B3 hvv
  have hm2 : m ≤ 9223372036854775807 := by omega
  go_wp2_with fail
  go_loopw [16] (fun i wr => ∃ j : Nat, j ≤ m ∧ i = .int .i64 j ∧ QR w g s (blkL k) (turnL k 54 ++ catL (ps.take j)) wr) (fun i _ => m - (intOf i).toNat)
  case atStart => exact ⟨0, by omega, rfl, HP1.out⟩
  case round =>
    obtain ⟨j, hj, rfl, PP⟩ := hrel
    have HPP := Lib.hid PP
    by_cases hlt : j < m
    · have hlp : j < ps.length := by rw [HL.out]; exact hlt
      have PB := HPT.out.below PP.bel (Nat.le_refl _)
      obtain ⟨b, o, rfl, hbb, hc, hpa⟩ := PB.cell hlp
      have hjz : (j : Int) < (m : Int) := by omega
      have hs := catL_snoc ps j hlp
      have hsz : (catL (ps.take j)).length ≤ 1000000 := by
        rw [catL_len (w := w) (B := w.heap.size) _ (fun p hp => HPT.out.all p (List.mem_of_mem_take hp))]
        have h1 := nsum_take ps j
        have h2 := HMS.out
        rw [HL.out] at h2
        omega
      obtain ⟨xs, hxs⟩ : ∃ xs, xs = turnL k 54 ++ catL (ps.take j) := ⟨_, rfl⟩
      have hxl : xs.length ≤ 1000064 := by rw [hxs, List.length_append, turn_len]; omega
      have hxb : ∀ x ∈ xs, Byte x := by
        rw [hxs]
        exact fun x hx => (List.mem_append.1 hx).elim (turn_byte k 54 x) (catL_byte (w := w) (B := w.heap.size) (fun p hp => HPT.out.all p (List.mem_of_mem_take hp)) x)
      have hs2 : turnL k 54 ++ catL (ps.take (j + 1)) = xs ++ ps[j].bs := by rw [hs, hxs, List.append_assoc]
      rw [← hxs] at PP
      have HPP := Lib.hid PP
      obtain ⟨S, hS⟩ : ∃ S, S = (sumL xs).toArray := ⟨_, rfl⟩
      obtain ⟨S', hS'⟩ : ∃ S, S = (sumL (xs ++ ps[j].bs)).toArray := ⟨_, rfl⟩
      have AD := Lib.hid ((add_any xs ps[j].bs ps[j].A ps[j].n ps[j].c wr (hpa.nums.more PP.bel.size) hpa.cap hpa.max hxb hpa.byte (by have := hpa.few; omega)).mono fun e w'' h => (show e = .returned (.agg S') ∧ Below wr.heap.size wr w'' from ⟨by rw [hS']; exact h.1, h.2⟩))
      rw [← hS] at AD
      have GS := Lib.hid (show wr.heap[s]? = some (.cells S 41 (0, 0)) by rw [hS]; exact PP.sum.row)
      have UJ := Lib.hid (show (Try.prog.info? 41).map (·.size) = some S.size by rw [sum_info, hS]; simp [sumL_len])
      have UJ' := Lib.hid (show (Try.prog.info? 41).map (·.size) = some S'.size by rw [sum_info, hS']; simp [sumL_len])
      have SS := Lib.hid (show S.size = S'.size by rw [hS, hS']; simp [sumL_len])
      have OJ' := Lib.hid (show S'.all (·.oneCell') = true by rw [hS']; exact sumC_one _ _ _)
      have SL := Lib.hid PP.sum.lt
      have HS' := Lib.hid hS'
      have HS2 := Lib.hid hs2
      generalize ps[j].A = pA at *
      generalize ps[j].n = pn at *
      generalize ps[j].c = pc at *
      generalize ps[j].bs = pbs at *
      clear hs hs2 hxs hxl hxb hsz PP PB hpa hS hS'
      go_wp2_with (first
        | (refine wpList_load_row rfl 41 (.tmp 6) rfl s rfl _ _ _ _ GS.out Try.underlying41 rfl UJ.out ?_)
        | (go_at_call 16; (with_reducible refine AD.out.mono ?_); rintro e w5 ⟨rfl, B5⟩
           have G5 := Lib.hid ((B5.block s SL.out).trans GS.out)
           have P5 := Lib.hid (HPP.out.put (ys := xs ++ pbs) B5)
           rw [← HS'.out, ← HS2.out] at P5
           clear B5)
        | (refine wpList_store_row rfl 41 (.tmp 6) (.tmp 22) rfl s S' rfl rfl _ _ G5.out UJ'.out SS.out OJ'.out ?_))
      clear hc
      go_roundw
      case rel => exact ⟨j + 1, by omega, by go_num, P5.out⟩
      case measure => simp [intOf]; omega
    · have e : j = m := by omega
      subst e
      have hF : catL (ps.take j) = catL ps := by rw [List.take_of_length_le (by rw [HL.out]; exact Nat.le_refl _)]
      rw [hF] at PP
      obtain ⟨msg, hmsg⟩ : ∃ msg, msg = catL ps := ⟨_, rfl⟩
      have hcb := catL_byte (w := w) (B := w.heap.size) (ps := ps) HPT.out.all
      have hcl : (catL ps).length ≤ 1000000 := by
        rw [catL_len (w := w) (B := w.heap.size) ps HPT.out.all]
        have h2 := HMS.out
        rw [HL.out] at h2
        omega
      rw [← hmsg] at PP hcb hcl ⊢
      obtain ⟨S, hS⟩ : ∃ S, S = (sumL (turnL k 54 ++ msg)).toArray := ⟨_, rfl⟩
      obtain ⟨D, hD⟩ : ∃ D, D = ((inL k msg).map (Value.int .u8)).toArray := ⟨_, rfl⟩
      have GS := Lib.hid (show wr.heap[s]? = some (.cells S 41 (0, 0)) by rw [hS]; exact PP.sum.row)
      have UJ := Lib.hid (show (Try.prog.info? 41).map (·.size) = some S.size by rw [sum_info, hS]; simp [sumL_len])
      have DG := Lib.hid ((digest_any (turnL k 54 ++ msg) wr (fun x hx => (List.mem_append.1 hx).elim (turn_byte k 54 x) (hcb x)) (by rw [List.length_append, turn_len]; omega)).mono fun e w'' h => (show e = .returned (.agg D) ∧ Below wr.heap.size wr w'' from ⟨by rw [hD]; exact h.1, h.2⟩))
      rw [← hS] at DG
      have UD := Lib.hid (show (Try.prog.info? 25).map (·.size) = some D.size by rw [digest_info, hD]; simp [inL, sha_len])
      have ZD := Lib.hid (show Z.size = D.size by rw [hD, HZ.out]; simp [nz, inL, sha_len])
      have OD := Lib.hid (show D.all (·.oneCell') = true by rw [hD]; exact nums_one _)
      have HQ := Lib.hid PP
      have HDD := Lib.hid hD
      have HMM := Lib.hid hmsg
      have hjz : ¬ (j : Int) < (j : Int) := by omega
      clear hF hcb hcl PP HPP hlt hj hS hD hmsg
      go_upto_region 9 with (first
        | (refine wpList_load_row rfl 41 (.tmp 6) rfl s rfl _ _ _ _ GS.out Try.underlying41 rfl UJ.out ?_)
        | (go_at_call 17; (with_reducible refine DG.out.mono ?_); rintro e w5 ⟨rfl, B5⟩)
        | (refine wpList_store_row rfl 25 (.tmp 9) (.tmp 25) rfl w5.heap.size D rfl rfl _ _ (heap_alloc_new _ _) UD.out ZD.out OD.out ?_))
      rw [World.setRow_alloc_new]
      obtain ⟨SA, hSA⟩ : ∃ S, S = (sumL (turnL k 92)).toArray := ⟨_, rfl⟩
      obtain ⟨SB, hSB⟩ : ∃ S, S = (sumL (turnL k 92 ++ inL k msg)).toArray := ⟨_, rfl⟩
      obtain ⟨E, hE⟩ : ∃ E, E = ((macL k msg).map (Value.int .u8)).toArray := ⟨_, rfl⟩
      have HBG := Lib.hid (fun (w' : World) => (show Calls Try.prog 15 #[.agg ((blkL k).map (Value.int .u8)).toArray, .int .u8 92] w' fun e w'' => e = .returned (.agg SA) ∧ Below w'.heap.size w' w'' by
        rw [hSA]; exact (begun_any (blkL k) 92 w' (blk_len k) (blk_byte HY.out) (by decide) (by decide)).mono fun e w'' h => h))
      have HAD := Lib.hid (fun (w' : World) (d : Nat) (A : Arr .u8 25 w' d (inL k msg)) => (show Calls Try.prog 16 #[.agg SA, .slice (some ⟨d, 0, none⟩) 20 20] w' fun e w'' => e = .returned (.agg SB) ∧ Below w'.heap.size w' w'' by
        rw [hSA, hSB]
        exact (add_any (turnL k 92) (inL k msg) (some ⟨d, 0, none⟩) 20 20 w' (A.part (sha_len _)) (Nat.le_refl _) (by decide) (turn_byte k 92) (sha_byte _) (by rw [turn_len]; decide)).mono fun e w'' h => h))
      have HDG := Lib.hid (fun (w' : World) => (show Calls Try.prog 17 #[.agg SB] w' fun e w'' => e = .returned (.agg E) ∧ Below w'.heap.size w' w'' by
        rw [hSB, hE]
        exact (digest_any (turnL k 92 ++ inL k msg) w' (outer_byte k msg) (by rw [List.length_append, turn_len]; simp [inL, sha_len])).mono fun e w'' h => h))
      have UE := Lib.hid (show (Try.prog.info? 25).map (·.size) = some E.size by rw [digest_info, hE]; simp [mac_len])
      have ZE := Lib.hid (show (((nz 20).map (Value.int .u8)).toArray).size = E.size by rw [hE]; simp [nz, mac_len])
      have OE := Lib.hid (show E.all (·.oneCell') = true by rw [hE]; exact nums_one _)
      have UB := Lib.hid (show (Try.prog.info? 31).map (·.size) = some (((blkL k).map (Value.int .u8)).toArray).size by rw [b64_info]; simp [blk_len])
      have HE := Lib.hid hE
      have J0 : OJ w w5.heap.size g (blkL k) (inL k msg) SA SB E (fun _ => false) (fun _ => undef) (w5.alloc (.cells D 25)).drew := by
        have q1 := HQ.out.bel.size
        have q2 := B5.size
        have q3 := HQ.out.lt
        refine ⟨((HQ.out.bel.trans (B5.mono q1)).alloc (HQ.out.bel.trans (B5.mono q1)).size _).drew, ?_, ?_, ?_, fun h => (by cases h), fun h => (by cases h), fun h => (by cases h), fun h => (by cases h), fun h => (by cases h), ?_, q3⟩
        · exact ((HQ.out.out.below B5 HQ.out.out.lt).alloc (.cells D 25)).row
        · rw [HDD.out]; exact (Arr.new w5 .u8 25 (inL k msg)).heap rfl
        · exact ((HQ.out.blk.below B5 HQ.out.blk.lt).alloc (.cells D 25)).heap rfl
        · have := HQ.out.out.lt; omega
      generalize w5.alloc (.cells D 25) = w6 at *
      generalize w5.heap.size = d at *
      have HJ0 := Lib.hid J0
      clear J0 hzv B5 hSA hSB hE
      refine with_act fun a0 ha0 => ?_
      have hl : tabO.length = a0.tmps.size := by rw [ha0]; rfl
      have k4 : a0.tmps[4]?.getD undef = .pointer (some ⟨w.heap.size, 0, none⟩) := by rw [ha0]; rfl
      have k5 : a0.tmps[5]?.getD undef = .pointer (some ⟨g, 0, none⟩) := by rw [ha0]; rfl
      have k9 : a0.tmps[9]?.getD undef = .pointer (some ⟨d, 0, none⟩) := by rw [ha0]; rfl
      refine wp_region_J (by kernel_rfl) tabO (by kernel_rfl) (by kernel_rfl) hl (fun _ => undef) (by rw [ha0]; rfl) (OJ w d g (blkL k) (inL k msg) SA SB E) HJ0.out ⟨?_, ?_, ?_, ?_, ?_, ?_, trivial⟩ ?_
      · refine stepJ [] (by kernel_rfl) rfl fun m us w' hJ hmi hd => ?_
        have o5 := (frame_old2 (us := us) (a := a0) (show (tabO[5]?).join = none from rfl)).trans k5
        generalize frame tabO a0 us = fr at *
        exact load_J 31 5 rfl g o5 _ _ (0, 0) _ hJ.blk.row Try.underlying31 rfl UB.out hJ.s0
      · refine stepJ [0] (by kernel_rfl) rfl fun m us w' hJ hmi hd => ?_
        have v0 := (frame_at2 (us := us) hl (show (tabO[26]?).join = some 0 from rfl)).trans (hJ.v0 (hd 0 (by simp)))
        have hc := HBG.out w'
        generalize ((blkL k).map (Value.int .u8)).toArray = KB at v0 hc
        generalize frame tabO a0 us = fr at *
        refine call_J (f := 15) (args := #[.agg KB, .int .u8 92]) (by go_simp) (hc.mono ?_)
        rintro e w'' ⟨rfl, B⟩
        exact ⟨_, rfl, hJ.s1 B⟩
      · refine stepJ [] (by kernel_rfl) rfl fun m us w' hJ hmi hd => ?_
        have o9 := (frame_old2 (us := us) (a := a0) (show (tabO[9]?).join = none from rfl)).trans k9
        generalize frame tabO a0 us = fr at *
        exact val_J (v := .slice (some ⟨d, 0, none⟩) 20 20) (w' := w') (by go_simp) hJ.s2
      · refine stepJ [1, 2] (by kernel_rfl) rfl fun m us w' hJ hmi hd => ?_
        have v1 := (frame_at2 (us := us) hl (show (tabO[27]?).join = some 1 from rfl)).trans (hJ.v1 (hd 1 (by simp)))
        have v2 := (frame_at2 (us := us) hl (show (tabO[28]?).join = some 2 from rfl)).trans (hJ.v2 (hd 2 (by simp)))
        generalize frame tabO a0 us = fr at *
        refine call_J (f := 16) (args := #[.agg SA, .slice (some ⟨d, 0, none⟩) 20 20]) (by go_simp) ((HAD.out w' d hJ.dig).mono ?_)
        rintro e w'' ⟨rfl, B⟩
        exact ⟨_, rfl, hJ.s3 B⟩
      · refine stepJ [3] (by kernel_rfl) rfl fun m us w' hJ hmi hd => ?_
        have v3 := (frame_at2 (us := us) hl (show (tabO[29]?).join = some 3 from rfl)).trans (hJ.v3 (hd 3 (by simp)))
        generalize frame tabO a0 us = fr at *
        refine call_J (f := 17) (args := #[.agg SB]) (by go_simp) ((HDG.out w').mono ?_)
        rintro e w'' ⟨rfl, B⟩
        exact ⟨_, rfl, hJ.s4 B⟩
      · refine stepJ [4] (by kernel_rfl) rfl fun m us w' hJ hmi hd => ?_
        have v4 := (frame_at2 (us := us) hl (show (tabO[30]?).join = some 4 from rfl)).trans (hJ.v4 (hd 4 (by simp)))
        have o4 := (frame_old2 (us := us) (a := a0) (show (tabO[4]?).join = none from rfl)).trans k4
        generalize frame tabO a0 us = fr at *
        exact store_J 25 4 30 rfl w.heap.size _ o4 v4 _ _ (hJ.r5 hmi) UE.out ZE.out OE.out (hJ.s5 hmi)
      · intro m us w7 hmm hJ
        have hr := hJ.res
        rw [hmm 5 (by decide)] at hr
        have HR := Lib.hid hr
        have HB := Lib.hid hJ.bel
        clear hr hJ hmm hl k4 k5 k9
        subst ha0
        simp only [frame, tabO]
        go_wp2_with fail
        refine bodyPost_ret (v := .agg E) (results_cell_row Try.results9 _ _ w.heap.size _ _ _ _ (by rfl) HR.out Try.underlying25 rfl UE.out) rfl ⟨by rw [HE.out, HMM.out], HB.out⟩
end Go.Proofs.Ytbpolandhjcggaa.hmC
