/- A turn, whichever it is. -/
import Derived.Test.YtefhgakcffhgaabWg
import Derived.Test.YtefhgakcffhgaabWh
import Derived.Test.YtefhgakcffhgaabWi
import Derived.Test.YtefhgakcffhgaabWj
import Derived.Test.YtefhgakcffhgaabWk
namespace Go.Proofs.Ytefhgakcffhgaab
open Go.RowKit Go.Lib Go.Maps

theorem plays_any (L g n : Nat) (B : Int) (V : Vals) (W : WS) (what a b : Int) (w : World) (h : WorldP w L g V W) (hI : Inv W n B) (hn : n < 200) (hB : B + 1000 ≤ 1099511627776) (hb : int64 b) :
    Calls Try.prog 9 #[.pointer (some ⟨g, 0, none⟩), .agg #[.int .i64 what, .int .i64 a, .int .i64 b]] w (Played (what ≠ 7) w L g n B V W) := by
  by_cases h0 : what = 0
  · subst h0; exact (plays0 L g n B V W a b w h hI hn hB hb).mono (fun _ _ ⟨e, V', W', a, b, c⟩ => ⟨e, V', W', a, b, fun h => c trivial⟩)
  by_cases h1 : what = 1
  · subst h1; exact (plays1 L g n B V W a b w h hI hn hB).mono (fun _ _ ⟨e, V', W', a, b, c⟩ => ⟨e, V', W', a, b, fun h => c trivial⟩)
  by_cases h2 : what = 2
  · subst h2; exact (plays2 L g n B V W a b w h hI hn hB).mono (fun _ _ ⟨e, V', W', a, b, c⟩ => ⟨e, V', W', a, b, fun h => c trivial⟩)
  by_cases h3 : what = 3
  · subst h3; exact (plays3 L g n B V W a b w h hI hn hB).mono (fun _ _ ⟨e, V', W', a, b, c⟩ => ⟨e, V', W', a, b, fun h => c trivial⟩)
  by_cases h4 : what = 4
  · subst h4; exact (plays4 L g n B V W a b w h hI hn hB).mono (fun _ _ ⟨e, V', W', a, b, c⟩ => ⟨e, V', W', a, b, fun h => c trivial⟩)
  by_cases h5 : what = 5
  · subst h5; exact (plays5 L g n B V W a b w h hI hn hB).mono (fun _ _ ⟨e, V', W', a, b, c⟩ => ⟨e, V', W', a, b, fun h => c trivial⟩)
  by_cases h6 : what = 6
  · subst h6; exact (plays6 L g n B V W a b w h hI hn hB).mono (fun _ _ ⟨e, V', W', a, b, c⟩ => ⟨e, V', W', a, b, fun h => c trivial⟩)
  by_cases h7 : what = 7
  · subst h7; exact (plays7 L g n B V W a b w h hI hn hB).mono (fun _ _ ⟨e, V', W', a, b, c⟩ => ⟨e, V', W', a, b, fun h => c (h rfl)⟩)
  exact (playsNo L g n B V W a b what w h hI hn hB (by omega)).mono (fun _ _ ⟨e, V', W', a, b, c⟩ => ⟨e, V', W', a, b, fun _ => c trivial⟩)
end Go.Proofs.Ytefhgakcffhgaab
