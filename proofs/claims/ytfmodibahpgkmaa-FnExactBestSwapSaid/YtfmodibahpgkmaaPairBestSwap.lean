/- Both sides of BestSwap answer alike. Condition: the Field and the set read as such. -/
import Derived.Test.YtfmodibahpgkmaaBestImpl
