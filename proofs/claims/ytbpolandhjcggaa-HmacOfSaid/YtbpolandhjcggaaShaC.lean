/-
  The document's sha: Of.
-/
import Derived.Test.YtbpolandhjcggaaShaB
namespace Go.Proofs.Ytbpolandhjcggaa.shaC
open Go.ChangeShapes Go.WideShapes Go.ChangeAt Go.RowKit
open Go.Proofs.Ytbpolandhjcggaa.memC Go.Proofs.Ytbpolandhjcggaa.genC Go.Proofs.Ytbpolandhjcggaa.shaM
set_option linter.unusedVariables false
theorem byte_info : (Try.prog.info? 5).map (fun i => (i.zero, i.size, i.bytes)) = some (some (.int .u8 0), 1, 1) := by kernel_rfl
/-- how many bytes 0 fill up -/
def zerosN (n : Nat) : Nat := (119 - n % 64) % 64
theorem zeros_spec (n : Nat) : (n + 1 + zerosN n) % 64 = 56 ∧ zerosN n < 64 := by unfold zerosN; omega
theorem zeros_less {n j : Nat} (h : j < zerosN n) : (n + 1 + j) % 64 ≠ 56 := by unfold zerosN at h; omega
/-- a number's eight bytes, the highest first -/
def lenB (x : Int) : List Int := [x / 72057594037927936 % 256, x / 281474976710656 % 256, x / 1099511627776 % 256, x / 4294967296 % 256, x / 16777216 % 256, x / 65536 % 256, x / 256 % 256, x % 256]
/-- the bytes, filled up -/
def padL (bs : List Int) : List Int := bs ++ 128 :: List.replicate (zerosN bs.length) 0 ++ lenB ((bs.length : Int) * 8)
theorem pad_byte {bs : List Int} (hy : ∀ x ∈ bs, Byte x) : ∀ y ∈ padL bs, Byte y := by
  intro y h
  unfold padL at h
  rcases List.mem_append.1 h with h | h
  · rcases List.mem_append.1 h with h | h
    · exact hy y h
    · rcases List.mem_cons.1 h with rfl | h
      · unfold Byte; omega
      · rw [List.eq_of_mem_replicate h]; unfold Byte; omega
  · unfold lenB at h
    simp only [List.mem_cons, List.not_mem_nil, or_false] at h
    unfold Byte
    rcases h with rfl | rfl | rfl | rfl | rfl | rfl | rfl | rfl <;> omega
def initH : List Int := [1732584193, 4023233417, 2562383102, 271733878, 3285377520]
/-- the five numbers behind k blocks -/
def hashN (p : List Int) : Nat → List Int
  | 0 => initH
  | k + 1 => blk (hashN p k) ((p.drop (64 * k)).take 64)
theorem w32_zip : ∀ (a b : List Int), ∀ x ∈ List.zipWith ad a b, W32 x
  | [], _, x, h => by simp at h
  | _ :: _, [], x, h => by simp at h
  | a :: r, b :: s, x, h => by
    simp only [List.zipWith_cons_cons, List.mem_cons] at h
    rcases h with rfl | h
    · exact w32_ad _ _
    · exact w32_zip r s x h
theorem hash_ok (p : List Int) : ∀ k, (hashN p k).length = 5 ∧ ∀ x ∈ hashN p k, W32 x
  | 0 => ⟨rfl, by unfold hashN initH W32; simp⟩
  | k + 1 => by
    have ih := hash_ok p k
    refine ⟨?_, w32_zip _ _⟩
    show (List.zipWith ad (hashN p k) (steps (sched _ 80) (hashN p k) 80)).length = 5
    rw [List.length_zipWith, ih.1, steps_len ih.1]; rfl
def outB (h : List Int) (i : Nat) : Int := h.getD (i / 4) 0 / 2 ^ (24 - 8 * (i % 4)) % 256
/-- the digest -/
def shaL (bs : List Int) : List Int := (List.range 20).map (outB (hashN (padL bs) ((padL bs).length / 64)))
/-- the first i bytes of a digest, the others 0 -/
def outL (d : List Int) (i : Nat) : List Int := (List.range i).map (outB d) ++ List.replicate (20 - i) 0
theorem out_set (d : List Int) (i : Nat) (hi : i < 20) : (outL d i).set i (outB d i) = outL d (i + 1) := by
  have e : 20 - i = (20 - (i + 1)) + 1 := by omega
  unfold outL
  rw [List.set_append_right _ _ (by simp), List.length_map, List.length_range, Nat.sub_self, e, List.replicate_succ, List.range_succ, List.map_append]
  simp
theorem out_len (d : List Int) (i : Nat) (hi : i ≤ 20) : (outL d i).length = 20 := by unfold outL; simp; omega
theorem digest_info : (Try.prog.info? 25).map (·.size) = some 20 := by kernel_rfl
theorem nums_one (d : List Int) : ((d.map (Value.int .u8)).toArray).all (·.oneCell') = true := by
  rw [Array.all_eq_true_iff_forall_mem]
  intro v hv
  simp at hv
  obtain ⟨z, _, rfl⟩ := hv
  rfl
def ShaRet (w : World) (bs : List Int) (e : Ending) (w' : World) : Prop := e = .returned (.agg ((shaL bs).map (Value.int .u8)).toArray) ∧ Below w.heap.size w w'
/-- b[p:p+64] -/
theorem cut64 (g L c p : Nat) (h1 : p + 64 ≤ L) (h2 : L ≤ c) (h3 : c ≤ 9223372036854775807) (w : World) :
    (Instr.slice 22 (.slice (some ⟨g, 0, none⟩) L c) (some (.int .i64 (p : Int))) (some (.int .i64 ((p : Int) + 64))) none).run Try.prog w = .ok (.slice (some ⟨g, p, none⟩) 64 (c - p)) w := by
  have k1 : (p : Int) + 64 = ((p + 64 : Nat) : Int) := by omega
  rw [k1]
  obtain ⟨q, hq⟩ : ∃ q, q = p + 64 := ⟨_, rfl⟩
  rw [← hq]
  have k2 : (p : Int) ≤ (q : Int) := by omega
  have k3 : (q : Int) ≤ (c : Int) := by omega
  have k4 : q - p = 64 := by omega
  have k5 : ¬ c = p := by omega
  have k6 : p ≤ q := by omega
  have k7 : q ≤ c := by omega
  have k8 : (0 : Int) ≤ (q : Int) := by omega
  clear hq h1 k1
  go_simp
/-- the bytes so far: the call's own -/
def PadR (w W : World) (T : List Int) (v : Value) (wr : World) : Prop := ∃ A c L, v = .slice A L c ∧ T.length = L ∧ L ≤ c ∧ c ≤ maxLen ∧ Own .u8 5 wr (w.heap.size + 1) (.slice A L c) T ∧ Below (w.heap.size + 1) W wr
theorem pad_snoc (bs : List Int) (j : Nat) : (bs ++ 128 :: List.replicate j 0) ++ [0] = bs ++ 128 :: List.replicate (j + 1) 0 := by
  rw [List.append_assoc, List.cons_append, ← List.replicate_succ']
theorem pad_next {w : World} {b : Nat} {v : Value} {pd xs ys : List Int} {y : Int} (h : Own .u8 5 w b v (pd ++ xs ++ [y])) (e : xs ++ [y] = ys) : Own .u8 5 w b v (pd ++ ys) := by
  rw [List.append_assoc, e] at h; exact h
def lenOf : Value → Nat
  | .slice _ l _ => l
  | _ => 0
set_option maxRecDepth 100000 in
set_option maxHeartbeats 1000000 in
theorem of_any (A : Option Addr) (n c : Nat) (bs : List Int) (w : World) (hb : Nums .u8 w w.heap.size A n bs) (hy : ∀ x ∈ bs, Byte x) (hn : n ≤ 20000) :
    Calls Try.prog 18 #[.slice A n c] w (ShaRet w bs) := by
  obtain ⟨i0, hi0, hz0, hz1, hz2⟩ := info_parts byte_info
  have T1 := Lib.hid hi0; have T2 := Lib.hid hz0; have T3 := Lib.hid hz1; have T4 := Lib.hid hz2
  have HBn := Lib.hid hb
  have HL := Lib.hid hb.len
  clear hi0 hz0 hz1 hz2 hb
  go_enter Try.func18, Try.ntmps18
  go_upto_region 1 with fail
  have R0 := Arr.new w .u8 25 (List.replicate 20 0)
  have BW : Below w.heap.size w (w.alloc (.cells ((List.replicate 20 (0 : Int)).map (Value.int .u8)).toArray 25)) := alloc_below _ _
  have SW := alloc_size w (.cells ((List.replicate 20 (0 : Int)).map (Value.int .u8)).toArray 25)
  change Code.wp _ _ _ _ (w.alloc (.cells ((List.replicate 20 (0 : Int)).map (Value.int .u8)).toArray 25))
  generalize w.alloc (.cells ((List.replicate 20 (0 : Int)).map (Value.int .u8)).toArray 25) = W at *
  have NW := HBn.out.below BW
  have SH := Lib.hid SW
  clear SW
  go_upto_region 2 with (first
    | (at_builtin; (refine wpList_appT _ rfl (.const (.slice none 0 0)) (.tmp 10) _ rfl 5 i0 _ 1 Try.underlying22 T1.out T2.out T3.out T4.out rfl (w.heap.size + 1) _ [] rfl (Own.nil _ _) w.heap.size A n c bs rfl NW (by simp only [maxLen, List.length_nil]; omega) (by simp only [List.length_nil]; omega) (Nat.le_of_eq SH.out.symm) n (by simp) ?_)
       intro A2 c2 w2 g2 g2' O2 B2
       have O2 : Own .u8 5 w2 (w.heap.size + 1) (.slice A2 n c2) bs := O2
       have S2 : w.heap.size + 1 ≤ w2.heap.size := by rw [← SH.out]; exact Below.size B2)
    | (at_builtin; (refine wpList_app1T _ rfl (.tmp 11) (.tmp 12) _ rfl 5 i0 _ 1 Try.underlying22 T1.out T2.out T3.out T4.out rfl (w.heap.size + 1) _ bs rfl O2 128 rfl (by rw [HL.out]; simp only [maxLen]; omega) (by rw [HL.out]; omega) S2 (n + 1) (by rw [HL.out]) ?_)
       intro A3 c3 w3 g3 g3' O3 B3
       have P3 : PadR w W (bs ++ 128 :: List.replicate 0 0) (.slice A3 (n + 1) c3) w3 := ⟨A3, c3, n + 1, rfl, by simp [HL.out], g3, g3', O3, B2.trans B3⟩))
  clear O2 B2 O3 B3 S2 g2 g2' g3 g3'
  go_wp2_with fail
  go_loopw [3] (fun v wr => ∃ j : Nat, j ≤ zerosN n ∧ PadR w W (bs ++ 128 :: List.replicate j 0) v wr) (fun v _ => zerosN n + n + 1 - lenOf v)
  case atStart => exact ⟨0, Nat.zero_le _, P3⟩
  case round =>
    obtain ⟨j, hj, A4, c4, L, rfl, hl, g4, g4', O4, B4⟩ := hrel
    have hL : L = n + 1 + j := by rw [← hl]; simp [HL.out]; omega
    have HLj := Lib.hid hL
    have hz64 := (zeros_spec n).2
    have hL2 : L ≤ 20100 := by omega
    have HTl := Lib.hid hl
    have S4 : w.heap.size + 1 ≤ wr.heap.size := by rw [← SH.out]; exact Below.size B4
    clear hl hL
    by_cases hlt : j < zerosN n
    · have hne := zeros_less hlt
      rw [← HLj.out] at hne
      have e1 : ((L : Int) % 64 == 56) = false := by simp; omega
      have e2 : ((L : Int) % 64 != 56) = true := by simp; omega
      have e3 : ¬ ((L : Int) % 64 = 56) := by omega
      clear hne
      go_wp2_with (first
        | (at_builtin; (refine wpList_app1T _ rfl (.tmp 18) (.tmp 19) _ rfl 5 i0 _ 1 Try.underlying22 T1.out T2.out T3.out T4.out rfl (w.heap.size + 1) _ _ rfl O4 0 rfl (by rw [HTl.out]; simp only [maxLen]; omega) (by rw [HTl.out]; omega) S4 (L + 1) (by rw [HTl.out]) ?_)
           intro A5 c5 w5 g5 g5' O5 B5
           have P5 : PadR w W (bs ++ 128 :: List.replicate (j + 1) 0) (.slice A5 (L + 1) c5) w5 := by
             rw [pad_snoc] at O5
             exact ⟨A5, c5, L + 1, rfl, by rw [← pad_snoc, List.length_append, HTl.out]; rfl, g5, g5', O5, B4.trans B5⟩))
      clear e1 e2 e3
      go_roundw
      case rel => exact ⟨j + 1, by omega, P5⟩
      case measure => simp [lenOf]; have := HLj.out; omega
    · have e : j = zerosN n := by omega
      have h56 := (zeros_spec n).1
      rw [← e, ← HLj.out] at h56
      have e1 : (L : Int) % 64 = 56 := by omega
      have P4 : PadR w W (bs ++ 128 :: List.replicate (zerosN n) 0) (.slice A4 L c4) wr := ⟨A4, c4, L, rfl, by rw [← e]; exact HTl.out, g4, g4', by rw [← e]; exact O4, B4⟩
      have H56 := Lib.hid h56
      clear O4 B4 S4 h56 hlt
      go_upto_region 5 with fail
      clear e1
      obtain ⟨x, hx⟩ : ∃ x, x = (n : Int) * 8 := ⟨_, rfl⟩
      rw [← hx]
      have x0 : 0 ≤ x := by omega
      have x1 : x ≤ 160000 := by omega
      have HX := Lib.hid hx
      obtain ⟨pd, hpd⟩ : ∃ pd, pd = bs ++ 128 :: List.replicate (zerosN n) 0 := ⟨_, rfl⟩
      rw [← hpd] at P4
      have HPD := Lib.hid hpd
      have hpl : pd.length = L := by rw [hpd, ← e]; exact HTl.out
      have HPL := Lib.hid hpl
      clear hx hpd hpl HTl e
      go_wp2_with fail
      go_loopw [3, 5] (fun v i wr => ∃ (m : Nat) (z : Int), m ≤ 8 ∧ z + m = 7 ∧ i = .int .i64 z ∧ PadR w W (pd ++ (lenB x).take m) v wr) (fun _ i _ => (intOf i + 1).toNat)
      case atStart => exact ⟨0, 7, by omega, by omega, rfl, by simpa using P4⟩
      case round =>
        obtain ⟨m, z, hm, hzm, rfl, A6, c6, L6, rfl, hl6, g6, g6', O6, B6⟩ := hrel
        have S6 : w.heap.size + 1 ≤ wr.heap.size := by rw [← SH.out]; exact Below.size B6
        have hL6 : L6 ≤ 20200 := by rw [← hl6, List.length_append, HPL.out]; have : ((lenB x).take m).length ≤ 8 := by rw [List.length_take]; simp [lenB]; omega
                                    omega
        have HL6 := Lib.hid hl6
        clear hl6
        by_cases hlt : m < 8
        · rcases (show (m = 0 ∧ z = 7) ∨ (m = 1 ∧ z = 6) ∨ (m = 2 ∧ z = 5) ∨ (m = 3 ∧ z = 4) ∨ (m = 4 ∧ z = 3) ∨ (m = 5 ∧ z = 2) ∨ (m = 6 ∧ z = 1) ∨ (m = 7 ∧ z = 0) by omega) with ⟨rfl, rfl⟩ | ⟨rfl, rfl⟩ | ⟨rfl, rfl⟩ | ⟨rfl, rfl⟩ | ⟨rfl, rfl⟩ | ⟨rfl, rfl⟩ | ⟨rfl, rfl⟩ | ⟨rfl, rfl⟩
          · clear hzm
            go_wp2_with (first
              | (at_builtin; (refine wpList_app1T _ rfl (.tmp 29) (.tmp 35) _ rfl 5 i0 _ 1 Try.underlying22 T1.out T2.out T3.out T4.out rfl (w.heap.size + 1) _ _ rfl O6 _ rfl (by rw [HL6.out]; simp only [maxLen]; omega) (by rw [HL6.out]; omega) S6 (L6 + 1) (by rw [HL6.out]) ?_)
                 intro A7 c7 w7 g7 g7' O7 B7))
            go_roundw
            case rel =>
              refine ⟨0 + 1, 6, by omega, by omega, rfl, A7, c7, L6 + 1, rfl, ?_, g7, g7', pad_next O7 ?_, B6.trans B7⟩
              · rw [← HL6.out]; simp [lenB]
              · first | (simp [lenB]; done) | (simp [lenB]; omega)
            case measure => simp [intOf]
          · clear hzm
            go_wp2_with (first
              | (at_builtin; (refine wpList_app1T _ rfl (.tmp 29) (.tmp 35) _ rfl 5 i0 _ 1 Try.underlying22 T1.out T2.out T3.out T4.out rfl (w.heap.size + 1) _ _ rfl O6 _ rfl (by rw [HL6.out]; simp only [maxLen]; omega) (by rw [HL6.out]; omega) S6 (L6 + 1) (by rw [HL6.out]) ?_)
                 intro A7 c7 w7 g7 g7' O7 B7))
            go_roundw
            case rel =>
              refine ⟨1 + 1, 5, by omega, by omega, rfl, A7, c7, L6 + 1, rfl, ?_, g7, g7', pad_next O7 ?_, B6.trans B7⟩
              · rw [← HL6.out]; simp [lenB]
              · first | (simp [lenB]; done) | (simp [lenB]; omega)
            case measure => simp [intOf]
          · clear hzm
            go_wp2_with (first
              | (at_builtin; (refine wpList_app1T _ rfl (.tmp 29) (.tmp 35) _ rfl 5 i0 _ 1 Try.underlying22 T1.out T2.out T3.out T4.out rfl (w.heap.size + 1) _ _ rfl O6 _ rfl (by rw [HL6.out]; simp only [maxLen]; omega) (by rw [HL6.out]; omega) S6 (L6 + 1) (by rw [HL6.out]) ?_)
                 intro A7 c7 w7 g7 g7' O7 B7))
            go_roundw
            case rel =>
              refine ⟨2 + 1, 4, by omega, by omega, rfl, A7, c7, L6 + 1, rfl, ?_, g7, g7', pad_next O7 ?_, B6.trans B7⟩
              · rw [← HL6.out]; simp [lenB]
              · first | (simp [lenB]; done) | (simp [lenB]; omega)
            case measure => simp [intOf]
          · clear hzm
            go_wp2_with (first
              | (at_builtin; (refine wpList_app1T _ rfl (.tmp 29) (.tmp 35) _ rfl 5 i0 _ 1 Try.underlying22 T1.out T2.out T3.out T4.out rfl (w.heap.size + 1) _ _ rfl O6 _ rfl (by rw [HL6.out]; simp only [maxLen]; omega) (by rw [HL6.out]; omega) S6 (L6 + 1) (by rw [HL6.out]) ?_)
                 intro A7 c7 w7 g7 g7' O7 B7))
            go_roundw
            case rel =>
              refine ⟨3 + 1, 3, by omega, by omega, rfl, A7, c7, L6 + 1, rfl, ?_, g7, g7', pad_next O7 ?_, B6.trans B7⟩
              · rw [← HL6.out]; simp [lenB]
              · first | (simp [lenB]; done) | (simp [lenB]; omega)
            case measure => simp [intOf]
          · clear hzm
            go_wp2_with (first
              | (at_builtin; (refine wpList_app1T _ rfl (.tmp 29) (.tmp 35) _ rfl 5 i0 _ 1 Try.underlying22 T1.out T2.out T3.out T4.out rfl (w.heap.size + 1) _ _ rfl O6 _ rfl (by rw [HL6.out]; simp only [maxLen]; omega) (by rw [HL6.out]; omega) S6 (L6 + 1) (by rw [HL6.out]) ?_)
                 intro A7 c7 w7 g7 g7' O7 B7))
            go_roundw
            case rel =>
              refine ⟨4 + 1, 2, by omega, by omega, rfl, A7, c7, L6 + 1, rfl, ?_, g7, g7', pad_next O7 ?_, B6.trans B7⟩
              · rw [← HL6.out]; simp [lenB]
              · first | (simp [lenB]; done) | (simp [lenB]; omega)
            case measure => simp [intOf]
          · clear hzm
            go_wp2_with (first
              | (at_builtin; (refine wpList_app1T _ rfl (.tmp 29) (.tmp 35) _ rfl 5 i0 _ 1 Try.underlying22 T1.out T2.out T3.out T4.out rfl (w.heap.size + 1) _ _ rfl O6 _ rfl (by rw [HL6.out]; simp only [maxLen]; omega) (by rw [HL6.out]; omega) S6 (L6 + 1) (by rw [HL6.out]) ?_)
                 intro A7 c7 w7 g7 g7' O7 B7))
            go_roundw
            case rel =>
              refine ⟨5 + 1, 1, by omega, by omega, rfl, A7, c7, L6 + 1, rfl, ?_, g7, g7', pad_next O7 ?_, B6.trans B7⟩
              · rw [← HL6.out]; simp [lenB]
              · first | (simp [lenB]; done) | (simp [lenB]; omega)
            case measure => simp [intOf]
          · clear hzm
            go_wp2_with (first
              | (at_builtin; (refine wpList_app1T _ rfl (.tmp 29) (.tmp 35) _ rfl 5 i0 _ 1 Try.underlying22 T1.out T2.out T3.out T4.out rfl (w.heap.size + 1) _ _ rfl O6 _ rfl (by rw [HL6.out]; simp only [maxLen]; omega) (by rw [HL6.out]; omega) S6 (L6 + 1) (by rw [HL6.out]) ?_)
                 intro A7 c7 w7 g7 g7' O7 B7))
            go_roundw
            case rel =>
              refine ⟨6 + 1, 0, by omega, by omega, rfl, A7, c7, L6 + 1, rfl, ?_, g7, g7', pad_next O7 ?_, B6.trans B7⟩
              · rw [← HL6.out]; simp [lenB]
              · first | (simp [lenB]; done) | (simp [lenB]; omega)
            case measure => simp [intOf]
          · clear hzm
            go_wp2_with (first
              | (at_builtin; (refine wpList_app1T _ rfl (.tmp 29) (.tmp 35) _ rfl 5 i0 _ 1 Try.underlying22 T1.out T2.out T3.out T4.out rfl (w.heap.size + 1) _ _ rfl O6 _ rfl (by rw [HL6.out]; simp only [maxLen]; omega) (by rw [HL6.out]; omega) S6 (L6 + 1) (by rw [HL6.out]) ?_)
                 intro A7 c7 w7 g7 g7' O7 B7))
            go_roundw
            case rel =>
              refine ⟨7 + 1, -1, by omega, by omega, rfl, A7, c7, L6 + 1, rfl, ?_, g7, g7', pad_next O7 ?_, B6.trans B7⟩
              · rw [← HL6.out]; simp [lenB]
              · first | (simp [lenB]; done) | (simp [lenB]; omega)
            case measure => simp [intOf]
        · have e8 : m = 8 := by omega
          subst e8
          obtain rfl : z = -1 := by omega
          have hP : pd ++ (lenB x).take 8 = padL bs := by rw [padL, HL.out, ← HPD.out, HX.out]; rfl
          rw [hP] at O6
          have HLP := Lib.hid (show (padL bs).length = L6 by rw [← hP]; exact HL6.out)
          have h64 : L6 % 64 = 0 := by
            have h1 := HL6.out
            rw [List.length_append, HPL.out] at h1
            have h2 : ((lenB x).take 8).length = 8 := rfl
            have := H56.out
            omega
          have hpos : 0 < L6 := by
            have h1 := HL6.out
            rw [List.length_append] at h1
            have h2 : ((lenB x).take 8).length = 8 := rfl
            omega
          have H64 := Lib.hid h64
          obtain ⟨gb, rfl, hgb0, hgb1, _, _⟩ := O6.row hpos
          have NB := O6.nums
          have RW := R0.below B6 (Nat.lt_succ_self _)
          have BEL : Below w.heap.size w wr := BW.trans (B6.mono (Nat.le_succ _))
          have yP := pad_byte hy
          clear h64 hP HL6 hzm hlt B6 O6 P4
          go_upto_region 10 with fail
          have AH := Arr.new wr .u32 38 initH
          have R8 := RW.alloc (.cells (initH.map (Value.int .u32)).toArray 38)
          have N8 := NB.below (alloc_below wr (.cells (initH.map (Value.int .u32)).toArray 38))
          have B8 := BEL.alloc BEL.size (.cells (initH.map (Value.int .u32)).toArray 38)
          have z8 := alloc_size wr (.cells (initH.map (Value.int .u32)).toArray 38)
          have ltR : w.heap.size < wr.heap.size := RW.lt
          change Code.wp _ _ _ _ (wr.alloc (.cells (initH.map (Value.int .u32)).toArray 38))
          generalize wr.alloc (.cells (initH.map (Value.int .u32)).toArray 38) = w8 at *
          generalize wr.heap.size = Hb at *
          have Z8 := Lib.hid z8
          have NH := Lib.hid N8
          have YP := Lib.hid yP
          clear z8 RW NB BEL S6 N8 yP
          go_wp2_with fail
          go_loopw [7] (fun i wx => ∃ k : Nat, 64 * k ≤ L6 ∧ i = .int .i64 (64 * k : Nat) ∧ Arr .u32 38 wx Hb (hashN (padL bs) k) ∧ Below Hb w8 wx) (fun i _ => L6 - (intOf i).toNat)
          case atStart => exact ⟨0, by omega, rfl, AH, Below.refl _ _⟩
          case round =>
            obtain ⟨k, hk, rfl, AK, BK⟩ := hrel
            obtain ⟨p, hp⟩ : ∃ p, p = 64 * k := ⟨_, rfl⟩
            rw [← hp] at hk ⊢
            have HP := Lib.hid hp
            have HA := Lib.hid AK
            clear hp
            by_cases hlt : p + 64 ≤ L6
            · obtain ⟨a0, a1, a2, a3, a4, ha⟩ := list5 (hash_ok (padL bs) k).1
              have hw := (hash_ok (padL bs) k).2
              rw [ha] at AK hw
              have q0 : wr.cell? ⟨Hb, 0, none⟩ = some (.int .u32 a0) := AK.cell (j := 0) (by simp)
              have q1 : wr.cell? ⟨Hb, 1, none⟩ = some (.int .u32 a1) := AK.cell (j := 1) (by simp)
              have q2 : wr.cell? ⟨Hb, 2, none⟩ = some (.int .u32 a2) := AK.cell (j := 2) (by simp)
              have q3 : wr.cell? ⟨Hb, 3, none⟩ = some (.int .u32 a3) := AK.cell (j := 3) (by simp)
              have q4 : wr.cell? ⟨Hb, 4, none⟩ = some (.int .u32 a4) := AK.cell (j := 4) (by simp)
              have l1 : (p : Int) + 64 ≤ (L6 : Int) := by omega
              have pc : ¬ c6 = p := by omega
              have g6m : c6 ≤ 9223372036854775807 := g6'
              have sl := cut64 gb L6 c6 p hlt g6 g6m
              have NP : Nums .u8 wr Hb (some ⟨gb, p, none⟩) 64 (((padL bs).drop p).take 64) := by
                have h1 := (((NH.out.below BK).cut (j := p) (by omega) g6).upto (j := 64) (by omega))
                rw [if_neg pc] at h1
                simpa [memC.add_plain] using h1
              obtain ⟨d0, d1, d2, d3, d4, hd⟩ := list5 (hash_ok (padL bs) (k + 1)).1
              have hd2 : blk [a0, a1, a2, a3, a4] (((padL bs).drop p).take 64) = [d0, d1, d2, d3, d4] := by rw [← hd, ← ha, HP.out]; rfl
              have HD := Lib.hid hd
              clear hd ha
              go_upto_region 13 with fail
              have i1 : IntKind.i64.wrap ((p : Int) + 64) = (p : Int) + 64 := IntWalk.i64_in _ (by omega)
              go_still_tail 6, (by kernel_rfl)
              change wpList _ _ _ _ _ wr.drew
              clear i1 sl
              have BL := Lib.hid ((block_any a0 a1 a2 a3 a4 (some ⟨gb, p, none⟩) (c6 - p) (((padL bs).drop p).take 64) wr.drew ((NP.more (Nat.le_of_lt AK.lt)).heap rfl) (fun y h => YP.out y (List.mem_of_mem_drop (List.mem_of_mem_take h))) (hw a0 (by simp)) (hw a1 (by simp)) (hw a2 (by simp)) (hw a3 (by simp)) (hw a4 (by simp))).mono
                fun e w' h => (show e = .returned (.agg #[.int .u32 d0, .int .u32 d1, .int .u32 d2, .int .u32 d3, .int .u32 d4]) ∧ Below wr.heap.size wr.drew w' from ⟨by rw [h.1, hd2]; rfl, h.2⟩))
              have AKl := AK.lt
              have AD := AK.heap (w' := wr.drew) rfl
              clear hd2 q0 q1 q2 q3 q4 AK NP hw
              go_wp2_with (first
                | (go_at_call 25; (with_reducible refine BL.out.mono ?_); rintro e w9 ⟨rfl, B9⟩
                   have A9 := AD.below B9 AKl
                   have q0 : w9.cell? ⟨Hb, 0, none⟩ = some (.int .u32 a0) := A9.cell (j := 0) (by simp)
                   have q1 : w9.cell? ⟨Hb, 1, none⟩ = some (.int .u32 a1) := A9.cell (j := 1) (by simp)
                   have q2 : w9.cell? ⟨Hb, 2, none⟩ = some (.int .u32 a2) := A9.cell (j := 2) (by simp)
                   have q3 : w9.cell? ⟨Hb, 3, none⟩ = some (.int .u32 a3) := A9.cell (j := 3) (by simp)
                   have q4 : w9.cell? ⟨Hb, 4, none⟩ = some (.int .u32 a4) := A9.cell (j := 4) (by simp)
                   have f0 := A9.frozen 0
                   have f1 := A9.frozen 1
                   have f2 := A9.frozen 2
                   have f3 := A9.frozen 3
                   have f4 := A9.frozen 4))
              go_roundw
              case rel =>
                refine ⟨k + 1, by have := HP.out; omega, by have := HP.out; go_num, ?_, ?_⟩
                · rw [HD.out]
                  exact ((((A9.stored 0 d0).stored 1 d1).stored 2 d2).stored 3 d3).stored 4 d4
                · have bb : Below Hb w8 w9 := (BK.drew).trans (B9.mono (Nat.le_of_lt AKl))
                  exact ((((bb.setCell (p := ⟨Hb, 0, none⟩) (Nat.le_refl _) _).setCell (p := ⟨Hb, 1, none⟩) (Nat.le_refl _) _).setCell (p := ⟨Hb, 2, none⟩) (Nat.le_refl _) _).setCell (p := ⟨Hb, 3, none⟩) (Nat.le_refl _) _).setCell (p := ⟨Hb, 4, none⟩) (Nat.le_refl _) _
              case measure => simp [intOf]; omega
            · have e : k = L6 / 64 := by have := HP.out; have := H64.out; omega
              have hD : hashN (padL bs) k = hashN (padL bs) ((padL bs).length / 64) := by rw [HLP.out, e]
              have AF := HA.out
              rw [hD] at AF
              obtain ⟨D, eD⟩ : ∃ D, D = hashN (padL bs) ((padL bs).length / 64) := ⟨_, rfl⟩
              have hDl : D.length = 5 := by rw [eD]; exact (hash_ok _ _).1
              have hDw : ∀ x ∈ D, W32 x := by rw [eD]; exact (hash_ok _ _).2
              rw [← eD] at AF
              have ED := Lib.hid eD
              have HDL := Lib.hid hDl
              have RF := R8.below BK ltR
              have BF : Below w.heap.size w wr := B8.trans (BK.mono (Nat.le_of_lt ltR))
              have lr : Hb < wr.heap.size := AF.lt
              have hneg : ¬ ((p : Int) + 64 ≤ (L6 : Int)) := by omega
              clear hD eD AK hlt e hDl
              go_upto_region 15 with fail
              have AO := Arr.new wr .u8 25 (List.replicate 20 0)
              have A2' := AF.alloc (.cells ((List.replicate 20 (0 : Int)).map (Value.int .u8)).toArray 25)
              have R2' := RF.alloc (.cells ((List.replicate 20 (0 : Int)).map (Value.int .u8)).toArray 25)
              have B2' := BF.alloc BF.size (.cells ((List.replicate 20 (0 : Int)).map (Value.int .u8)).toArray 25)
              change Code.wp _ _ _ _ (wr.alloc (.cells ((List.replicate 20 (0 : Int)).map (Value.int .u8)).toArray 25))
              generalize wr.alloc (.cells ((List.replicate 20 (0 : Int)).map (Value.int .u8)).toArray 25) = w11 at *
              generalize wr.heap.size = Ob at *
              clear AF RF BF HA BK
              go_wp2_with fail
              go_loopw [9] (fun i wx => ∃ q : Nat, q ≤ 20 ∧ i = .int .i64 q ∧ Arr .u8 25 wx Ob (outL D q) ∧ Arr .u32 38 wx Hb D ∧ Arr .u8 25 wx w.heap.size (List.replicate 20 0) ∧ Below w.heap.size w wx) (fun i _ => 20 - (intOf i).toNat)
              case atStart => exact ⟨0, by omega, rfl, AO, A2', R2', B2'⟩
              case round =>
                obtain ⟨q, hq, rfl, AQ, HQ, RQ, BQ⟩ := hrel
                by_cases hlt : q < 20
                · obtain ⟨u, hu⟩ : ∃ u, u = q / 4 := ⟨_, rfl⟩
                  obtain ⟨v, hv⟩ : ∃ v, v = q % 4 := ⟨_, rfl⟩
                  obtain ⟨s, hs⟩ : ∃ s, s = 24 - 8 * v := ⟨_, rfl⟩
                  have hv4 : v < 4 := by omega
                  have huz : (q : Int) / 4 = (u : Int) := by omega
                  have hvz : (q : Int) % 4 = (v : Int) := by omega
                  have hsz : (24 : Int) - 8 * (v : Int) = (s : Int) := by omega
                  have hu5 : u < 5 := by omega
                  have hu5z : (u : Int) < 5 := by omega
                  have HYv : outB D q = D.getD u 0 / 2 ^ s % 256 := by unfold outB; rw [← hu, ← hv, ← hs]
                  have HO := Lib.hid HYv
                  have cd : wr.cell? ⟨Hb, u, none⟩ = some (.int .u32 (D.getD u 0)) := HQ.cell (by rw [HDL.out]; exact hu5)
                  have yw : W32 (D.getD u 0) := by
                    rw [List.getD_eq_getElem?_getD, List.getElem?_eq_getElem (by rw [HDL.out]; exact hu5)]
                    exact hDw _ (List.getElem_mem _)
                  have co := AQ.cell (j := q) (by rw [out_len D q hq]; exact hlt)
                  have fo := AQ.frozen q
                  generalize D.getD u 0 = y at *
                  obtain ⟨yw0, yw1⟩ := yw
                  have hlz : (q : Int) < 20 := by omega
                  clear hu hv hs HYv
                  go_wp2_with fail
                  go_roundw
                  case rel =>
                    refine ⟨q + 1, by omega, by go_num, ?_, HQ.other (by show Ob ≠ Hb; omega) _, RQ.other (by show Ob ≠ w.heap.size; omega) _, BQ.setCell (p := ⟨Ob, q, none⟩) (by show w.heap.size ≤ Ob; omega) _⟩
                    rw [← out_set D q hlt, HO.out]
                    exact AQ.stored q _
                  case measure => simp [intOf]; omega
                · have e : q = 20 := by omega
                  subst e
                  have hF : outL D 20 = shaL bs := by unfold outL shaL; rw [ED.out]; simp
                  rw [hF] at AQ
                  have hlS : (shaL bs).length = 20 := by unfold shaL; simp
                  have G1 := Lib.hid AQ.row
                  have G2 := Lib.hid RQ.row
                  have HF := Lib.hid hlS
                  have U1 := Lib.hid (show (Try.prog.info? 25).map (·.size) = some (((shaL bs).map (Value.int .u8)).toArray).size by rw [digest_info]; simp [hlS])
                  clear hF hlt hlS AQ RQ HQ
                  go_wp2_with (first
                    | (refine wpList_load_row rfl 25 (.tmp 8) rfl Ob rfl _ _ _ _ G1.out Try.underlying25 rfl U1.out ?_)
                    | (refine wpList_store_row rfl 25 (.tmp 2) (.tmp 68) rfl w.heap.size _ rfl rfl _ _ G2.out U1.out (by simp [HF.out]) (nums_one _) ?_))
                  refine bodyPost_ret (v := .agg ((shaL bs).map (Value.int .u8)).toArray) (results_cell_row Try.results18 _ _ w.heap.size _ _ _ _ (by rfl) (setRow_heap _ _ _ _ _ _ G2.out) Try.underlying25 rfl U1.out) rfl ⟨rfl, ?_⟩
                  exact BQ.trans ⟨rfl, rfl, rfl, by simp, fun z hz => setRow_other _ _ _ _ (by omega)⟩
end Go.Proofs.Ytbpolandhjcggaa.shaC
