/- Signs: pieces; LexTwo. -/
import Derived.Test.YtmeoleacfkbilaaDoorLm
import Derived.Deep.AppendLies
namespace Go.Proofs.YtmeoleacfkbilaaDoor
open Go.RowKit Go.Shelf
set_option maxRecDepth 100000
set_option linter.unusedVariables false
set_option linter.unusedSimpArgs false
def pieceT : List (List UInt8) := [[60, 97, 62], [60, 104, 116, 116, 112, 58, 47, 47, 120, 47, 121, 62], [120, 58, 121], [58, 122], [95, 58, 98, 49], [63, 118], [36, 119], [34, 116, 92, 110, 34], [39, 117, 39], [64, 101, 110], [49, 50], [51, 46, 53, 48], [83, 69, 76, 69, 67, 84], [97], [116, 114, 117, 101], [38, 38], [124, 124], [33, 61], [60, 61], [62, 61], [94, 94], [123], [125], [40], [41], [91], [93], [46], [59], [44], [61], [60], [62], [33], [43], [45], [42], [47], [124], [94], [63], [32], [10], [35, 32, 99, 10], [34], [120, 58], [120, 58, 121, 46], [49, 46], [60, 97, 32, 98, 62], [95, 58], [64], [92], [38], [195, 169]]
def pieceL : Array Value := #[.string ⟨#[60, 97, 62]⟩, .string ⟨#[60, 104, 116, 116, 112, 58, 47, 47, 120, 47, 121, 62]⟩, .string ⟨#[120, 58, 121]⟩, .string ⟨#[58, 122]⟩, .string ⟨#[95, 58, 98, 49]⟩, .string ⟨#[63, 118]⟩, .string ⟨#[36, 119]⟩, .string ⟨#[34, 116, 92, 110, 34]⟩, .string ⟨#[39, 117, 39]⟩, .string ⟨#[64, 101, 110]⟩, .string ⟨#[49, 50]⟩, .string ⟨#[51, 46, 53, 48]⟩, .string ⟨#[83, 69, 76, 69, 67, 84]⟩, .string ⟨#[97]⟩, .string ⟨#[116, 114, 117, 101]⟩, .string ⟨#[38, 38]⟩, .string ⟨#[124, 124]⟩, .string ⟨#[33, 61]⟩, .string ⟨#[60, 61]⟩, .string ⟨#[62, 61]⟩, .string ⟨#[94, 94]⟩, .string ⟨#[123]⟩, .string ⟨#[125]⟩, .string ⟨#[40]⟩, .string ⟨#[41]⟩, .string ⟨#[91]⟩, .string ⟨#[93]⟩, .string ⟨#[46]⟩, .string ⟨#[59]⟩, .string ⟨#[44]⟩, .string ⟨#[61]⟩, .string ⟨#[60]⟩, .string ⟨#[62]⟩, .string ⟨#[33]⟩, .string ⟨#[43]⟩, .string ⟨#[45]⟩, .string ⟨#[42]⟩, .string ⟨#[47]⟩, .string ⟨#[124]⟩, .string ⟨#[94]⟩, .string ⟨#[63]⟩, .string ⟨#[32]⟩, .string ⟨#[10]⟩, .string ⟨#[35, 32, 99, 10]⟩, .string ⟨#[34]⟩, .string ⟨#[120, 58]⟩, .string ⟨#[120, 58, 121, 46]⟩, .string ⟨#[49, 46]⟩, .string ⟨#[60, 97, 32, 98, 62]⟩, .string ⟨#[95, 58]⟩, .string ⟨#[64]⟩, .string ⟨#[92]⟩, .string ⟨#[38]⟩, .string ⟨#[195, 169]⟩]
def pieceOf (n : Int) : List UInt8 := pieceT.getD (n % 54).toNat []
theorem piece_len : ∀ p ∈ pieceT, p.length ≤ 12 := by decide
theorem piece_mem (n : Int) : pieceOf n ∈ pieceT := by
  have h : (n % 54).toNat < 54 := by omega
  have hl : (n % 54).toNat < pieceT.length := h
  unfold pieceOf
  rw [List.getD_eq_getElem?_getD, List.getElem?_eq_getElem hl]
  exact List.getElem_mem hl
theorem piece_at (k : Nat) (hk : k < 54) : pieceL[k]? = some (.string ⟨(pieceT.getD k []).toArray⟩) := by
  have e : pieceL = (pieceT.map fun l => Value.string ⟨l.toArray⟩).toArray := rfl
  have hl : k < pieceT.length := hk
  rw [e, List.getElem?_toArray, List.getElem?_map, List.getD_eq_getElem?_getD, List.getElem?_eq_getElem hl]
  rfl
theorem piece11 (n : Int) (w : World) : Calls Tryd.prog 13 #[.int .i64 n] w fun e w' => e = .returned (.string ⟨(pieceOf n).toArray⟩) ∧ Below w.heap.size w w' := by
  have HW := Lib.hid (fun w => within11_eq n 54 (by omega) (by omega) w)
  obtain ⟨k, hk⟩ : ∃ k : Nat, n % 54 = (k : Int) := ⟨(n % 54).toNat, by omega⟩
  have hk54 : k < 54 := by omega
  have hpo : pieceOf n = pieceT.getD k [] := by unfold pieceOf; rw [hk]; rfl
  rw [hk] at HW
  obtain ⟨p, hp⟩ : ∃ p : ByteArray, p = ⟨(pieceT.getD k []).toArray⟩ := ⟨_, rfl⟩
  rw [hpo, ← hp]
  have hat := piece_at k hk54
  rw [← hp] at hat
  have hki : (k : Int) < 54 := by omega
  have hB1 : Blk (w.alloc (.cells pieceL 9)) w.heap.size pieceL 9 := Blk.new w pieceL _
  have hbel : Below w.heap.size w (w.alloc (.cells pieceL 9)) := (Below.refl _ _).alloc (Nat.le_refl _) _
  have hca := hB1.cell k
  rw [hat] at hca
  clear hk hpo hp hat hB1
  go_enter Tryd.func13, Tryd.ntmps13
  go_wp2_with fail
  generalize hG : w.heap.size = G at hca hbel ⊢
  generalize hWW : World.alloc w _ = w2
  have hWW2 : w.alloc (.cells pieceL 9) = w2 := hWW
  rw [hWW2] at hca hbel
  refine (HW.out _).mono ?_
  rintro e w3 ⟨rfl, hw⟩
  obtain rfl := hw.symm
  clear hw hWW hWW2
  have HB := Lib.hid hbel
  clear hbel
  go_wp2_with fail
  go_ret
  exact ⟨rfl, by rw [hG]; exact HB.out⟩
theorem eqT_self (x : Tok) : (x.1 == x.1 && (⟨x.2.toArray⟩ : ByteArray).toList == (⟨x.2.toArray⟩ : ByteArray).toList) = true := by simp
set_option maxHeartbeats 8000000 in
theorem same11_any {w : World} {b1 b2 : Nat} {v1 v2 : Value} {l : List Tok} (h1 : OwK w b1 v1 l) (h2 : OwK w b2 v2 l) (hl : l.length ≤ 1000000) :
    Calls Tryd.prog 11 #[v1, v2] w fun e w' => e = .returned (.bool true) ∧ Below w.heap.size w w' := by
  obtain ⟨a1, cap1, rfl, hc1, hc2⟩ := h1.form
  obtain ⟨a2, cap2, rfl, hc3, hc4⟩ := h2.form
  have HE1 := Lib.hid (fun hp => h1.at hp)
  have HE2 := Lib.hid (fun hp => h2.at hp)
  obtain ⟨n, hn⟩ : ∃ n, n = l.length := ⟨_, rfl⟩
  rw [← hn] at hl hc1 hc3 HE1 HE2 ⊢
  have HN := Lib.hid hn
  have hni : (n : Int) ≤ 1000000 := by omega
  clear hn h1 h2
  go_enter Tryd.func11, Tryd.ntmps11
  go_wp2_with fail
  go_loopg [5] n (fun g s5 wx => ∃ i : Nat, i + g = n ∧ s5 = .int .i64 i ∧ ∃ m, wx = w.drewN m)
  case atStart => exact ⟨0, by omega, rfl, 0, rfl⟩
  case round =>
    obtain ⟨i, hig, rfl, m, rfl⟩ := hrel
    cases gk with
    | zero =>
      obtain rfl : i = n := by omega
      have hn : ¬ ((i : Int) < i) := by omega
      go_wp2_with fail
      go_ret
      exact ⟨rfl, ⟨rfl, rfl, rfl, Nat.le_refl _, fun _ _ => rfl⟩⟩
    | succ g =>
      have hi : i < n := by omega
      have hil : i < l.length := by rw [← HN.out]; exact hi
      have hii : (i : Int) < n := by omega
      obtain ⟨x, hx⟩ : ∃ x, l[i]? = some x := ⟨_, List.getElem?_eq_getElem hil⟩
      obtain ⟨g1, rfl, hg1, hA⟩ := HE1.out (by omega)
      obtain ⟨g2, rfl, hg2, hB⟩ := HE2.out (by omega)
      obtain ⟨c0, c1⟩ := hA i x hx
      obtain ⟨d0, d1⟩ := hB i x hx
      rw [Nat.mul_comm] at c0 c1 d0 d1
      obtain ⟨xk, xl⟩ := x
      dsimp only at c0 c1 d0 d1
      have heq := fun w => equal_tok xk xk ⟨xl.toArray⟩ ⟨xl.toArray⟩ w
      rw [show (xk == xk && (⟨xl.toArray⟩ : ByteArray).toList == (⟨xl.toArray⟩ : ByteArray).toList) = true by simp] at heq
      clear hx hA hB
      go_wp2_with fail
      go_quiet (fail)
      go_wp2_with fail
      go_roundg g
      case measure => omega
      case rel => exact ⟨i + 1, by omega, by go_num, _, by first | rfl | (simp; rfl)⟩
def mapsL (X : List Tok) (o : Option (List Tok)) : Option (List Tok) := X.foldr (fun t o => o.map fun k => t :: k) o
theorem maps_some (Y : List Tok) : ∀ X, mapsL X (some Y) = some (X ++ Y)
  | [] => rfl
  | x :: X => by
    show (mapsL X (some Y)).map _ = _
    rw [maps_some Y X]; rfl
/-- A piece that is read: behind it, and a line feed, the others are read as they are alone. -/
def Reads (p : List UInt8) : Prop := (tokensL p).2 ≠ 0 ∨ ∃ (m : Nat) (X : List Tok), tokensL p = (X, 0) ∧ ∀ n q, tokL (n + m + 1) (p ++ 10 :: q) = mapsL X (tokL (n + 1) q)
theorem reads0 : Reads [60, 97, 62] := .inr ⟨1, [(1, [97])], by decide +kernel, fun n q => by kernel_rfl⟩
theorem reads1 : Reads [60, 104, 116, 116, 112, 58, 47, 47, 120, 47, 121, 62] := .inr ⟨1, [(1, [104, 116, 116, 112, 58, 47, 47, 120, 47, 121])], by decide +kernel, fun n q => by kernel_rfl⟩
theorem reads2 : Reads [120, 58, 121] := .inr ⟨1, [(2, [120, 58, 121])], by decide +kernel, fun n q => by kernel_rfl⟩
theorem reads3 : Reads [58, 122] := .inr ⟨1, [(2, [58, 122])], by decide +kernel, fun n q => by kernel_rfl⟩
theorem reads4 : Reads [95, 58, 98, 49] := .inr ⟨1, [(3, [98, 49])], by decide +kernel, fun n q => by kernel_rfl⟩
theorem reads5 : Reads [63, 118] := .inr ⟨1, [(4, [118])], by decide +kernel, fun n q => by kernel_rfl⟩
theorem reads6 : Reads [36, 119] := .inr ⟨1, [(4, [119])], by decide +kernel, fun n q => by kernel_rfl⟩
theorem reads7 : Reads [34, 116, 92, 110, 34] := .inr ⟨1, [(5, [116, 10])], by decide +kernel, fun n q => by kernel_rfl⟩
theorem reads8 : Reads [39, 117, 39] := .inr ⟨1, [(5, [117])], by decide +kernel, fun n q => by kernel_rfl⟩
theorem reads9 : Reads [64, 101, 110] := .inr ⟨1, [(6, [101, 110])], by decide +kernel, fun n q => by kernel_rfl⟩
theorem reads10 : Reads [49, 50] := .inr ⟨1, [(7, [49, 50])], by decide +kernel, fun n q => by kernel_rfl⟩
theorem reads11 : Reads [51, 46, 53, 48] := .inr ⟨1, [(7, [51, 46, 53, 48])], by decide +kernel, fun n q => by kernel_rfl⟩
theorem reads12 : Reads [83, 69, 76, 69, 67, 84] := .inr ⟨1, [(8, [83, 69, 76, 69, 67, 84])], by decide +kernel, fun n q => by kernel_rfl⟩
theorem reads13 : Reads [97] := .inr ⟨1, [(8, [97])], by decide +kernel, fun n q => by kernel_rfl⟩
theorem reads14 : Reads [116, 114, 117, 101] := .inr ⟨1, [(8, [116, 114, 117, 101])], by decide +kernel, fun n q => by kernel_rfl⟩
theorem reads15 : Reads [38, 38] := .inr ⟨1, [(9, [38, 38])], by decide +kernel, fun n q => by kernel_rfl⟩
theorem reads16 : Reads [124, 124] := .inr ⟨1, [(9, [124, 124])], by decide +kernel, fun n q => by kernel_rfl⟩
theorem reads17 : Reads [33, 61] := .inr ⟨1, [(9, [33, 61])], by decide +kernel, fun n q => by kernel_rfl⟩
theorem reads18 : Reads [60, 61] := .inr ⟨1, [(9, [60, 61])], by decide +kernel, fun n q => by kernel_rfl⟩
theorem reads19 : Reads [62, 61] := .inr ⟨1, [(9, [62, 61])], by decide +kernel, fun n q => by kernel_rfl⟩
theorem reads20 : Reads [94, 94] := .inr ⟨1, [(9, [94, 94])], by decide +kernel, fun n q => by kernel_rfl⟩
theorem reads21 : Reads [123] := .inr ⟨1, [(9, [123])], by decide +kernel, fun n q => by kernel_rfl⟩
theorem reads22 : Reads [125] := .inr ⟨1, [(9, [125])], by decide +kernel, fun n q => by kernel_rfl⟩
theorem reads23 : Reads [40] := .inr ⟨1, [(9, [40])], by decide +kernel, fun n q => by kernel_rfl⟩
theorem reads24 : Reads [41] := .inr ⟨1, [(9, [41])], by decide +kernel, fun n q => by kernel_rfl⟩
theorem reads25 : Reads [91] := .inr ⟨1, [(9, [91])], by decide +kernel, fun n q => by kernel_rfl⟩
theorem reads26 : Reads [93] := .inr ⟨1, [(9, [93])], by decide +kernel, fun n q => by kernel_rfl⟩
theorem reads27 : Reads [46] := .inr ⟨1, [(9, [46])], by decide +kernel, fun n q => by kernel_rfl⟩
theorem reads28 : Reads [59] := .inr ⟨1, [(9, [59])], by decide +kernel, fun n q => by kernel_rfl⟩
theorem reads29 : Reads [44] := .inr ⟨1, [(9, [44])], by decide +kernel, fun n q => by kernel_rfl⟩
theorem reads30 : Reads [61] := .inr ⟨1, [(9, [61])], by decide +kernel, fun n q => by kernel_rfl⟩
theorem reads31 : Reads [60] := .inr ⟨1, [(9, [60])], by decide +kernel, fun n q => by kernel_rfl⟩
theorem reads32 : Reads [62] := .inr ⟨1, [(9, [62])], by decide +kernel, fun n q => by kernel_rfl⟩
theorem reads33 : Reads [33] := .inr ⟨1, [(9, [33])], by decide +kernel, fun n q => by kernel_rfl⟩
theorem reads34 : Reads [43] := .inr ⟨1, [(9, [43])], by decide +kernel, fun n q => by kernel_rfl⟩
theorem reads35 : Reads [45] := .inr ⟨1, [(9, [45])], by decide +kernel, fun n q => by kernel_rfl⟩
theorem reads36 : Reads [42] := .inr ⟨1, [(9, [42])], by decide +kernel, fun n q => by kernel_rfl⟩
theorem reads37 : Reads [47] := .inr ⟨1, [(9, [47])], by decide +kernel, fun n q => by kernel_rfl⟩
theorem reads38 : Reads [124] := .inr ⟨1, [(9, [124])], by decide +kernel, fun n q => by kernel_rfl⟩
theorem reads39 : Reads [94] := .inr ⟨1, [(9, [94])], by decide +kernel, fun n q => by kernel_rfl⟩
theorem reads40 : Reads [63] := .inr ⟨1, [(9, [63])], by decide +kernel, fun n q => by kernel_rfl⟩
theorem reads41 : Reads [32] := .inr ⟨0, [], by decide +kernel, fun n q => by kernel_rfl⟩
theorem reads42 : Reads [10] := .inr ⟨0, [], by decide +kernel, fun n q => by kernel_rfl⟩
theorem reads43 : Reads [35, 32, 99, 10] := .inr ⟨0, [], by decide +kernel, fun n q => by kernel_rfl⟩
theorem reads44 : Reads [34] := .inl (by decide +kernel)
theorem reads45 : Reads [120, 58] := .inr ⟨1, [(2, [120, 58])], by decide +kernel, fun n q => by kernel_rfl⟩
theorem reads46 : Reads [120, 58, 121, 46] := .inr ⟨2, [(2, [120, 58, 121]), (9, [46])], by decide +kernel, fun n q => by kernel_rfl⟩
theorem reads47 : Reads [49, 46] := .inr ⟨2, [(7, [49]), (9, [46])], by decide +kernel, fun n q => by kernel_rfl⟩
theorem reads48 : Reads [60, 97, 32, 98, 62] := .inr ⟨4, [(9, [60]), (8, [97]), (8, [98]), (9, [62])], by decide +kernel, fun n q => by kernel_rfl⟩
theorem reads49 : Reads [95, 58] := .inl (by decide +kernel)
theorem reads50 : Reads [64] := .inl (by decide +kernel)
theorem reads51 : Reads [92] := .inl (by decide +kernel)
theorem reads52 : Reads [38] := .inl (by decide +kernel)
theorem reads53 : Reads [195, 169] := .inl (by decide +kernel)
theorem reads_all : ∀ p ∈ pieceT, Reads p := by
  intro p hp
  unfold pieceT at hp
  simp only [List.mem_cons, List.not_mem_nil, or_false] at hp
  rcases hp with rfl | rfl | rfl | rfl | rfl | rfl | rfl | rfl | rfl | rfl | rfl | rfl | rfl | rfl | rfl | rfl | rfl | rfl | rfl | rfl | rfl | rfl | rfl | rfl | rfl | rfl | rfl | rfl | rfl | rfl | rfl | rfl | rfl | rfl | rfl | rfl | rfl | rfl | rfl | rfl | rfl | rfl | rfl | rfl | rfl | rfl | rfl | rfl | rfl | rfl | rfl | rfl | rfl | rfl
  · exact reads0
  · exact reads1
  · exact reads2
  · exact reads3
  · exact reads4
  · exact reads5
  · exact reads6
  · exact reads7
  · exact reads8
  · exact reads9
  · exact reads10
  · exact reads11
  · exact reads12
  · exact reads13
  · exact reads14
  · exact reads15
  · exact reads16
  · exact reads17
  · exact reads18
  · exact reads19
  · exact reads20
  · exact reads21
  · exact reads22
  · exact reads23
  · exact reads24
  · exact reads25
  · exact reads26
  · exact reads27
  · exact reads28
  · exact reads29
  · exact reads30
  · exact reads31
  · exact reads32
  · exact reads33
  · exact reads34
  · exact reads35
  · exact reads36
  · exact reads37
  · exact reads38
  · exact reads39
  · exact reads40
  · exact reads41
  · exact reads42
  · exact reads43
  · exact reads44
  · exact reads45
  · exact reads46
  · exact reads47
  · exact reads48
  · exact reads49
  · exact reads50
  · exact reads51
  · exact reads52
  · exact reads53
theorem two_tokens {p q : List UInt8} {X Y : List Tok} (hr : Reads p) (hp : p.length ≤ 100) (hq : q.length ≤ 100) (h1 : tokensL p = (X, 0)) (h2 : tokensL q = (Y, 0)) : tokensL (p ++ 10 :: q) = (X ++ Y, 0) := by
  rcases hr with hr | ⟨m, X', hX, hall⟩
  · rw [h1] at hr; exact absurd rfl hr
  · rw [h1] at hX
    have hXX : X = X' := congrArg Prod.fst hX
    subst hXX
    have hl : (p ++ 10 :: q).length = p.length + q.length + 1 := by simp; omega
    have hq0 : tokL (q.length + 1) q = some Y := by
      unfold tokensL at h2
      rw [if_neg (by omega)] at h2
      cases ht : tokL (q.length + 1) q with
      | none => rw [ht] at h2; cases h2
      | some k => rw [ht] at h2; cases h2; rfl
    unfold tokensL
    rw [if_neg (by omega), hl, tok_fuel _ (p.length + q.length + 1 + m + 1) _ (by omega) (by omega), hall (p.length + q.length + 1) q, tok_fuel _ (q.length + 1) q (by omega) (by omega), hq0, maps_some]
theorem res_length : ∀ (n : Nat) (acc : List Tok) (l : List UInt8), (resL n acc l).1.length ≤ acc.length + l.length
  | _, acc, [] => by cases ‹Nat› <;> simp [resL]
  | 0, acc, c :: r => by simp [resL]
  | n + 1, acc, c :: r => by
    unfold resL
    cases ht : tokenL c r with
    | none => simp
    | some q =>
      obtain ⟨t, y⟩ := q
      dsimp only
      have h1 := res_length n (acc ++ [t]) (pastL false y)
      have h2 := past_len false y
      have h3 := token_len ht
      rw [List.length_append, List.length_singleton] at h1
      rw [List.length_cons]
      omega
theorem tokens_length (l : List UInt8) : (tokensL l).1.length ≤ l.length := by
  by_cases h : 4000 < l.length
  · unfold tokensL; rw [if_pos h]; simp
  · rw [tokens_res h]
    have := res_length l.length [] (pastL false l)
    have h2 := past_len false l
    rw [List.length_nil] at this
    omega
end Go.Proofs.YtmeoleacfkbilaaDoor
