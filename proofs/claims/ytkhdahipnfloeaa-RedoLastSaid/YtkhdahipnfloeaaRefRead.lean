/- triadref2's disk: Read. -/
import Derived.Test.YtkhdahipnfloeaaRefSync
namespace Go.Proofs.Ytkhdahipnfloeaa
open Go.RowKit
set_option maxRecDepth 100000

theorem Okay.len {s : Dsk} (h : Okay s) : s.now.length = s.kept.length := by rw [h, laidF_length]

theorem getD_set (l : List ByteArray) (a k : Nat) (b : ByteArray) (ha : a < l.length) : (l.set k b).getD a ByteArray.empty = if k = a then b else l.getD a ByteArray.empty := by
  rw [List.getD_eq_getElem?_getD, List.getD_eq_getElem?_getD, List.getElem?_set]
  by_cases e : k = a
  · subst e; simp [ha]
  · rw [if_neg e, if_neg e]

theorem rread_any (Q : Nat → Prop) (x : Nat) (s : Dsk) (i : Int) (w : World) (h : Rk w Q x s) (hok : Okay s) (hsl : s.since.length ≤ 1073741824) :
    Calls Try.prog 47 #[.pointer (some ⟨x, 0, none⟩), .int .i64 i] w fun e w' =>
      ∃ v, e = .returned (.tuple #[v, .int .i64 (faultOf s i)]) ∧ Own w' w.heap.size v (readOf s i) ∧ Below w.heap.size w w' := by
  obtain ⟨sS, sL, vS, vL, h⟩ := h
  obtain ⟨c0, c1, -, c3, -, -⟩ := h.cells
  cases hd : s.dead
  · rw [hd] at c3
    by_cases hi0 : i < 0
    · have e1 : faultOf s i = 1 := by rw [faultOf, hd, if_neg (by decide), if_neg (by omega)]
      have e2 : readOf s i = [] := by rw [readOf, e1]; rfl
      rw [e1, e2]
      clear h hok hd e1 e2 c0 c1
      go_enter Try.func47, Try.ntmps47
      go_wp2
      go_ret2
      exact ⟨_, rfl, ⟨by simp [vbs], .inl ⟨rfl, rfl⟩⟩, Below.refl _ _⟩
    obtain ⟨so, cp, hsS, hcp1, hcp2⟩ := owns_form h.rowS
    have hcp2' : cp ≤ 9223372036854775807 := hcp2
    by_cases hin : (s.kept.length : Int) ≤ i
    · have e1 : faultOf s i = 1 := by rw [faultOf, hd, if_neg (by decide), if_neg (by rw [hok.len]; omega)]
      have e2 : readOf s i = [] := by rw [readOf, e1]; rfl
      rw [e1, e2]
      rw [hsS] at c0
      clear h hok hd e1 e2 c1 hsS hcp2
      go_enter Try.func47, Try.ntmps47
      go_wp2
      go_ret2
      exact ⟨_, rfl, ⟨by simp [vbs], .inl ⟨rfl, rfl⟩⟩, Below.refl _ _⟩
    · obtain ⟨a, rfl⟩ : ∃ a : Nat, i = a := ⟨i.toNat, by omega⟩
      have hak : a < s.kept.length := by omega
      have e1 : faultOf s a = 0 := by rw [faultOf, hd, if_neg (by decide), if_pos (by rw [hok.len]; omega)]
      have e2 : readOf s a = pad ((laidF s.kept s.since (fun _ => true) s.since.length).getD a ByteArray.empty) := by
        rw [readOf, if_pos e1, sect, Int.toNat_natCast, hok]
      rw [e1, e2]
      obtain ⟨n, hn⟩ : ∃ n, n = s.since.length := ⟨_, rfl⟩
      obtain ⟨lo, lc, hsL, hlc1, hlc2⟩ := owns_form h.rowL
      have hlc2' : lc ≤ 9223372036854775807 := hlc2
      rw [← hn] at hsL hlc1 hsl ⊢
      obtain ⟨gS, cp', hsS', -, -⟩ := h.rowS.form (by omega)
      obtain ⟨rfl, rfl⟩ : so = some ⟨gS, 0, none⟩ ∧ cp = cp' := by
        rw [hsS'] at hsS
        simp only [Value.slice.injEq] at hsS
        exact ⟨hsS.1.symm, hsS.2.2.symm⟩
      rw [hsS] at c0
      rw [hsL] at c1
      obtain ⟨v0, hv0⟩ : ∃ v0, v0 = vS[a]'(by rw [h.lenS]; exact hak) := ⟨_, rfl⟩
      have hcS : w.cell? ⟨gS, a, none⟩ = some v0 := by
        have := h.rowS
        rw [hsS] at this
        rw [this.cellAt a (by omega), hv0]
        exact List.getElem?_eq_getElem _
      have hcon0 : Con w (fun g => Q g ∧ ¬ Ctl x sS sL g) v0 (pad ((laidF s.kept s.since (fun _ => true) 0).getD a ByteArray.empty)) := by
        have := h.conS a hak
        rw [← hv0] at this
        rw [show (laidF s.kept s.since (fun _ => true) 0).getD a ByteArray.empty = s.kept[a] from by show s.kept.getD a _ = _; rw [List.getD_eq_getElem?_getD, List.getElem?_eq_getElem hak]; rfl]
        exact this
      have HN := Lib.hid hn
      have H := Lib.hid h
      have HC0 := Lib.hid hcon0
      have HSL := Lib.hid hsL
      obtain ⟨m, hm⟩ : ∃ m, m = s.kept.length := ⟨_, rfl⟩
      rw [← hm] at c0 hcp1
      have ham : (a : Int) < m := by omega
      clear hn h hok hd e1 e2 hsS hsS' hsL hcp2 hlc2 hin hv0 hcon0 hm
      go_enter Try.func47, Try.ntmps47
      go_wp2_with fail
      go_loop [6, 7] (fun b i => ∃ k : Nat, k ≤ n ∧ i = .int .i64 k ∧ Con w (fun g => Q g ∧ ¬ Ctl x sS sL g) b (pad ((laidF s.kept s.since (fun _ => true) k).getD a ByteArray.empty))) (fun _ i => n - (intOf i).toNat)
      case atStart => exact ⟨0, Nat.zero_le _, rfl, HC0.out⟩
      case round =>
        rename_i b i
        obtain ⟨k, hk, rfl, hb⟩ := hrel
        have HB := Lib.hid hb
        clear hb
        by_cases hlt : k < n
        · have hks : k < s.since.length := by rw [← HN.out]; exact hlt
          have hkv : k < vL.length := by rw [H.out.lenL]; exact hks
          obtain ⟨g, cap', hsv', -, hgl⟩ := H.out.rowL.form (by omega)
          obtain ⟨rfl, rfl⟩ : lo = some ⟨g, 0, none⟩ ∧ lc = cap' := by
            have := HSL.out
            rw [hsv'] at this
            simp only [Value.slice.injEq] at this
            exact ⟨this.1.symm, this.2.2.symm⟩
          have hw1 := H.out.rowL.cells (g := g) (by rw [hsv']; rfl) (k * 2) _ (rcells_at s.since vL H.out.lenL k hks hkv).1
          have hw2 := H.out.rowL.cells (g := g) (by rw [hsv']; rfl) (k * 2 + 1) _ (rcells_at s.since vL H.out.lenL k hks hkv).2
          simp only [Addr.add_lit, Nat.zero_add] at hw1 hw2
          have hst : (laidF s.kept s.since (fun _ => true) (k + 1)).getD a ByteArray.empty = if s.since[k].1 = a then s.since[k].2 else (laidF s.kept s.since (fun _ => true) k).getD a ByteArray.empty := by
            rw [laidF_step _ _ _ _ hks, if_pos rfl, getD_set _ _ _ _ (by rw [laidF_length]; exact hak)]
          have hcL := Lib.hid (H.out.conL k hks)
          obtain ⟨p, hp⟩ : ∃ p, p = s.since[k].1 := ⟨_, rfl⟩
          rw [← hp] at hw1 hst
          clear hp hsv'
          by_cases hpa : p = a
          · subst hpa
            rw [if_pos rfl] at hst
            have HST := Lib.hid hst
            clear hst
            go_wp2
            go_round
            case rel => exact ⟨k + 1, by omega, by go_num, by rw [HST.out]; exact hcL.out⟩
            case measure => simp [intOf]; omega
          · rw [if_neg hpa] at hst
            have HST := Lib.hid hst
            have hpa' : ((p : Int) == a) = false := by simpa using (by omega : (p : Int) ≠ a)
            clear hst hpa
            go_wp2
            go_round
            case rel => exact ⟨k + 1, by omega, by go_num, by rw [HST.out]; exact HB.out⟩
            case measure => simp [intOf]; omega
        · obtain rfl : k = n := by omega
          obtain ⟨L, hL⟩ : ∃ L, L = pad ((laidF s.kept s.since (fun _ => true) k).getD a ByteArray.empty) := ⟨_, rfl⟩
          have hbs := HB.out.1
          have hb512 := HB.out.2.1
          rw [← hL] at hbs hb512
          have HLq := Lib.hid hL
          clear HB HC0 hL
          have hbs' := hbs.below ((Below.refl _ w).alloc (Nat.le_refl _) (.cells #[] 5))
          go_wp2_with (at_builtin; refine wpList_append_bytes rfl _ _ rfl w.heap.size _ _ rfl (Own.empty _ _ (Nat.le_refl _)) _ _ rfl hbs' (by simp [hb512]) (by simp) ?_)
          intro v' w' hv' hg'
          have hown : Own w' w.heap.size v' L := by simpa using hv'
          have hbel : Below w.heap.size w w' := ((Below.refl _ w).alloc (Nat.le_refl _) _).grown hg' (by simp) (fun q hq => by simp [Value.ownBlock] at hq; omega)
          clear hv' hg' hbs hbs' hb512
          go_wp2
          go_ret2
          exact ⟨_, rfl, by rw [← HLq.out]; exact hown, hbel⟩
  · have e1 : faultOf s i = 13 := by rw [faultOf, hd]; rfl
    have e2 : readOf s i = [] := by rw [readOf, e1]; rfl
    rw [e1, e2]
    rw [hd] at c3
    clear h hok hd e1 e2 c0 c1
    go_enter Try.func47, Try.ntmps47
    go_wp2
    go_ret2
    exact ⟨_, rfl, ⟨by simp [vbs], .inl ⟨rfl, rfl⟩⟩, Below.refl _ _⟩
end Go.Proofs.Ytkhdahipnfloeaa
