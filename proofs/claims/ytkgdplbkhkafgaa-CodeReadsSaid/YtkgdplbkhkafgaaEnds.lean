/- The walk of the law CodeEnds. -/
import Derived.Test.YtkgdplbkhkafgaaNums
import Derived.Deep.RegionHeld3
namespace Go.Proofs.Ytkgdplbkhkafgaa
open Go.RowKit

def enc (x : Int) : List UInt8 := le x 8 ++ le x 1
def encs (ls : List Int) : List UInt8 := ls.flatMap enc
theorem encs_length (ls : List Int) : (encs ls).length = 9 * ls.length := by
  induction ls with
  | nil => rfl
  | cons x t ih =>
    have : encs (x :: t) = enc x ++ encs t := rfl
    rw [this, List.length_append, ih]
    simp [enc, le_length]
    omega
theorem encs_snoc (ls : List Int) (x : Int) : encs (ls ++ [x]) = encs ls ++ le x 8 ++ le x 1 := by
  simp [encs, enc]

theorem wf_i64 {x : Int} (h : -9223372036854775808 ≤ x ∧ x ≤ 9223372036854775807) : (Lit.int .i64 x).wf = true := by
  simpa [Lit.wf, IntKind.min, IntKind.max, IntKind.signed, IntKind.bits] using h

/-- The six numbers in their row. -/
theorem six (w1 : World) (n P : Int) (hn : (Lit.int .i64 n).wf = true) (hP : (Lit.int .i64 P).wf = true) :
    ∃ ls : List Int, ls.length = 6 ∧ (∀ x ∈ ls, (Lit.int .i64 x).wf = true) ∧
      ∀ k, k < 6 → (w1.alloc (.cells #[.int .i64 n, .int .i64 9223372036854775807, .int .i64 (-9223372036854775808), .int .i64 0, .int .i64 (-1), .int .i64 P] 3)).cell? ⟨w1.heap.size, k, none⟩ = some (.int .i64 (ls.getD k 0)) := by
  refine ⟨[n, 9223372036854775807, -9223372036854775808, 0, -1, P], rfl, ?_, ?_⟩
  · intro x hx
    simp only [List.mem_cons, List.not_mem_nil, or_false] at hx
    rcases hx with rfl | rfl | rfl | rfl | rfl | rfl
    · exact hn
    · decide
    · decide
    · decide
    · decide
    · exact hP
  · intro k hk
    match k, hk with
    | 0, _ => simp
    | 1, _ => simp
    | 2, _ => simp
    | 3, _ => simp
    | 4, _ => simp
    | 5, _ => simp

theorem ends_walk (n k : Int) (w : World) (hn : (Lit.int .i64 n).wf = true) (hk : (Lit.int .i64 k).wf = true) :
    Calls Try.prog 7 #[.int .i64 n, .int .i64 k] w fun en w' => en = .returned (.bool true) ∧ Below w.heap.size w w' := by
  have j1 := Int.emod_nonneg k (show (62 : Int) ≠ 0 by decide)
  have j2 := Int.emod_lt_of_pos k (show (0 : Int) < 62 by decide)
  go_enter Try.func7, Try.ntmps7
  go_wp2_with fail
  refine (known_any _).mono ?_
  rintro en w1 ⟨rfl, hb1⟩
  have hs1 := hb1.size
  go_wp2_with fail
  refine (within_any k 62 (by decide) (by decide) hk _).mono ?_
  rintro en w2 ⟨rfl, rfl⟩
  generalize k % 62 = J at *
  go_wp2_with fail
  obtain ⟨ls, hlen, hwf, hc⟩ := six w1 n (wrap64 (2 ^ J.toNat)) hn (wf_i64 (by simp only [wrap64]; omega))
  have hb2 := hb1.alloc hs1 (.cells #[.int .i64 n, .int .i64 9223372036854775807, .int .i64 (-9223372036854775808), .int .i64 0, .int .i64 (-1), .int .i64 (wrap64 (2 ^ J.toNat))] 3)
  have hg : w1.heap.size < (w1.alloc (.cells #[.int .i64 n, .int .i64 9223372036854775807, .int .i64 (-9223372036854775808), .int .i64 0, .int .i64 (-1), .int .i64 (wrap64 (2 ^ J.toNat))] 3)).heap.size := by simp
  generalize w1.alloc (.cells #[.int .i64 n, .int .i64 9223372036854775807, .int .i64 (-9223372036854775808), .int .i64 0, .int .i64 (-1), .int .i64 (wrap64 (2 ^ J.toNat))] 3) = w2 at *
  generalize w1.heap.size = gl at *
  have hs2 := hb2.size
  generalize wrap64 (2 ^ J.toNat) = P at *
  clear hb1
  go_loopw [6, 7] (fun b i wr => ∃ k : Nat, k ≤ 6 ∧ i = .int .i64 k ∧ Bs wr b (encs (ls.take k)) ∧ Below w2.heap.size w2 wr) (fun _ i _ => 6 - (intOf i).toNat)
  case atStart => exact ⟨0, Nat.zero_le _, rfl, by simpa [encs] using Bs.nil w2, Below.refl _ _⟩
  case round =>
    obtain ⟨k, hk6, rfl, hbs, hbel⟩ := hrel
    have hsz := hbel.size
    by_cases hlt : k < 6
    · have hck : wr.cell? ⟨gl, k, none⟩ = some (.int .i64 (ls.getD k 0)) := (hbel.cell hg).trans (hc k hlt)
      have hel : (encs (ls.take k)).length ≤ 54 := by rw [encs_length, List.length_take]; omega
      have hsn : encs (ls.take (k + 1)) = encs (ls.take k) ++ le (ls.getD k 0) 8 ++ le (ls.getD k 0) 1 := by
        have : ls.take (k + 1) = ls.take k ++ [ls.getD k 0] := by
          rw [List.take_succ_eq_append_getElem (by omega)]
          simp [List.getD, show k < ls.length by omega]
        rw [this, encs_snoc]
      generalize ls.getD k 0 = x at *
      have HSN := Lib.hid hsn
      clear hsn
      have hgl : gl < wr.heap.size := by omega
      go_wp2_with fail
      go_region_held3 (fun w' => w'.cell? ⟨gl, k, none⟩ = some (.int .i64 x)) (first | assumption | exact hq1 | exact hq2)
        (first
          | (go_at_call 12; refine (int_any _ (encs (ls.take k)) x (by omega) _ ?_).mono ?_; (exact hbs); rintro e wi ⟨v1, rfl, ho1, hb1⟩; have hq1 := (hb1.cell hgl).trans hck)
          | (go_at_call 14; refine (byte_any _ (encs (ls.take k) ++ le x 8) x ?_ _ ho1.bs).mono ?_; (rw [List.length_append, le_length]; omega); rintro e wj ⟨v2, rfl, ho2, hb2⟩; have hq2 := (hb2.cell (Nat.lt_of_lt_of_le hgl hb1.size)).trans hq1))
      have hbj : Below w2.heap.size w2 wj := (hbel.drew.trans (hb1.mono hsz)).trans (hb2.mono (Nat.le_trans hsz hb1.size))
      have hbsj : Bs wj v2 (encs (ls.take (k + 1))) := by rw [HSN.out]; exact ho2.bs
      clear hq1 hq2 ho1 ho2 hb1 hb2 hbs hbel hck HSN
      go_wp2
      go_roundw
      case rel => exact ⟨k + 1, by omega, by go_num, hbsj, hbj⟩
      case measure => simp [intOf]; omega
    · obtain rfl : k = 6 := by omega
      have htk : ls.take 6 = ls := by rw [List.take_of_length_le (by omega)]
      rw [htk] at hbs
      have hB := hb2.trans (hbel.mono hs2)
      have hel : (encs ls).length = 54 := by rw [encs_length, hlen]
      obtain ⟨b6, off6, cap6, hv6, -⟩ := hbs.at (by omega)
      rw [hel] at hv6
      subst hv6
      clear htk
      go_wp2_with fail
      refine (new_any _ _ (by omega) _ hbs).mono ?_
      rintro en w4 ⟨r, rfl, hr4, hq4, hb4⟩
      have hs4 := hb4.size
      have hB4 := hB.trans (hb4.mono (Nat.le_trans hs2 hsz))
      have hbel4 := hbel.trans (hb4.mono hsz)
      have hr0 : w2.heap.size ≤ r := Nat.le_trans hsz hq4
      have hs5 := hbel4.size
      have hr1 : w.heap.size ≤ r := Nat.le_trans hs2 hr0
      clear hbs hB hbel hb4
      go_wp2_with fail
      go_loopw [9] (fun i wq => ∃ k : Nat, k ≤ 6 ∧ i = .int .i64 k ∧ Rd wq r (encs (ls.drop k)) 0 ∧ Below w2.heap.size w2 wq) (fun i _ => 6 - (intOf i).toNat)
      case atStart => exact ⟨0, Nat.zero_le _, rfl, by simpa using hr4, hbel4⟩
      case round =>
        obtain ⟨k, hk6, rfl, hrd, hbel⟩ := hrel
        have hsz := hbel.size
        by_cases hlt : k < 6
        · have hck : wr.cell? ⟨gl, k, none⟩ = some (.int .i64 (ls.getD k 0)) := (hbel.cell hg).trans (hc k hlt)
          have hwx : (Lit.int .i64 (ls.getD k 0)).wf = true := hwf _ (by simp [List.getD, show k < ls.length by omega])
          have hdr : encs (ls.drop k) = le (ls.getD k 0) 8 ++ (le (ls.getD k 0) 1 ++ encs (ls.drop (k + 1))) := by
            have : ls.drop k = ls.getD k 0 :: ls.drop (k + 1) := by
              rw [List.drop_eq_getElem_cons (show k < ls.length by omega)]
              simp [List.getD, show k < ls.length by omega]
            rw [this]
            simp [encs, enc]
          rw [hdr] at hrd
          generalize ls.getD k 0 = x at *
          clear hdr
          have tf := Lib.hid (took_front (le x 8) (le x 1 ++ encs (ls.drop (k + 1))) 8 (le_length _ _))
          have tg := Lib.hid (took_front (le x 1) (encs (ls.drop (k + 1))) 1 (le_length _ _))
          have nb := Lib.hid (num_back x hwx)
          have n1 := Lib.hid (num_one x)
          have hA := and_255 x
          have hne : gl ≠ r := by omega
          have hq0 : ((x : Int) != x) = false := by simp
          have hq00 : ((x % 256 : Int) != x % 256) = false := by simp
          clear hwx
          go_wp2_with fail
          go_region_held3 (fun w' => w'.cell? ⟨gl, k, none⟩ = some (.int .i64 x)) (first | assumption | exact hq1 | exact hq2)
            (first
              | (go_at_call 21; refine (rint_any r (le x 8 ++ (le x 1 ++ encs (ls.drop (k + 1)))) 0 _ ?_).mono ?_; (exact hrd); rintro e wi ⟨rfl, hri, hgi⟩; rw [tf.out.1, nb.out]; rw [tf.out.2.1, tf.out.2.2] at hri; have hq1 := hgi.cell hck (by simpa using hne))
              | (go_at_call 23; refine (rbyte_any r (le x 1 ++ encs (ls.drop (k + 1))) 0 _ ?_).mono ?_; (exact hri); rintro e wj ⟨rfl, hrj, hgj⟩; rw [tg.out.1, n1.out]; rw [tg.out.2.1, tg.out.2.2] at hrj; have hq2 := hgj.cell hq1 (by simpa using hne)))
          have hbi := Below.rd hbel.drew hgi (by simpa using hsz) hr0
          have hbj := Below.rd hbi hgj hbi.size hr0
          clear hri hgi hq1 hgj hq2 hbi hrd hbel hck tf tg nb n1 hA hq0 hq00
          go_wp2
          go_roundw
          case rel => exact ⟨k + 1, by omega, by go_num, hrj, hbj⟩
          case measure => simp [intOf]; omega
        · obtain rfl : k = 6 := by omega
          have hdr : encs (ls.drop 6) = [] := by rw [List.drop_of_length_le (by omega)]; rfl
          rw [hdr] at hrd
          have hB := hb2.trans (hbel.mono hs2)
          clear hdr
          go_wp2_with fail
          refine (end_any r _ _ _ hrd).mono ?_
          rintro en w8 ⟨rfl, rfl⟩
          go_wp2
          go_ret
          exact ⟨rfl, hB⟩
end Go.Proofs.Ytkgdplbkhkafgaa
